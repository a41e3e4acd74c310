/- What is stable: plain facts of an idempotent matrix of grades and of what becomes of it. -/
import Derived.Test.YtaiplhddbmhodaaGPow
namespace Go.Proofs.Ytaiplhddbmhodaa
set_option linter.unusedVariables false

section
variable {n : Nat} {a : MF}
theorem id_le (hid : ∀ i k, i < n → k < n → gmulF n a a i k = a i k) {i l k : Nat} (hi : i < n) (hl : l < n) (hk : k < n) : a i k ≤ max (a i l) (a l k) := by
  rw [← hid i k hi hk]; exact gdot_at (a i) (fun l => a l k) hl
theorem stab_at {i j k : Nat} (hk : k < n) : stabF n a i j ≤ max (max (a i k) (rep (a k k))) (a k j) := gdot_at (fun k => max (a i k) (rep (a k k))) (fun k => a k j) hk
theorem stab_met (i j : Nat) : stabF n a i j = 3 ∨ ∃ k, k < n ∧ stabF n a i j = max (max (a i k) (rep (a k k))) (a k j) := gdot_met (fun k => max (a i k) (rep (a k k))) (fun k => a k j) n
theorem stab_le3 (i j : Nat) : stabF n a i j ≤ 3 := gdot_le _ _ n
theorem le_stab (x : Int) (i j : Nat) (h3 : x ≤ 3) (h : ∀ k, k < n → x ≤ max (max (a i k) (rep (a k k))) (a k j)) : x ≤ stabF n a i j := (le_gdot _ _ x n).2 ⟨h3, h⟩
theorem le_gmul {b : MF} (x : Int) (i j : Nat) (h3 : x ≤ 3) (h : ∀ k, k < n → x ≤ max (a i k) (b k j)) : x ≤ gmulF n a b i j := (le_gdot _ _ x n).2 ⟨h3, h⟩
theorem gmul_at {b : MF} {i j k : Nat} (hk : k < n) : gmulF n a b i j ≤ max (a i k) (b k j) := gdot_at (a i) (fun l => b l j) hk
theorem gmul_le3 {b : MF} (i j : Nat) : gmulF n a b i j ≤ 3 := gdot_le _ _ n

theorem stab_ge (hin : GIn n a) (hid : ∀ i k, i < n → k < n → gmulF n a a i k = a i k) {i j : Nat} (hi : i < n) (hj : j < n) : a i j ≤ stabF n a i j := by
  refine le_stab _ i j (hin i j hi hj).2 fun k hk => ?_
  have := id_le hid hi hk hj
  omega
theorem stab_left (hid : ∀ i k, i < n → k < n → gmulF n a a i k = a i k) {i j : Nat} (hi : i < n) (hj : j < n) : gmulF n a (stabF n a) i j = stabF n a i j := by
  apply Int.le_antisymm
  · rcases stab_met (n := n) (a := a) i j with h | ⟨k, hk, h⟩
    · rw [h]; exact gmul_le3 i j
    · have h1 := gmul_at (a := a) (b := stabF n a) (i := i) (j := j) hk
      have h2 := stab_at (a := a) (i := k) (j := j) hk
      have h3 := rep_ge (a k k)
      omega
  · refine le_gmul _ i j (stab_le3 i j) fun l hl => ?_
    rcases stab_met (n := n) (a := a) l j with h | ⟨k, hk, h⟩
    · have := stab_le3 (n := n) (a := a) i j; omega
    · have h1 := stab_at (a := a) (i := i) (j := j) hk
      have h2 := id_le hid hi hl hk
      omega
theorem stab_right (hid : ∀ i k, i < n → k < n → gmulF n a a i k = a i k) {i j : Nat} (hi : i < n) (hj : j < n) : gmulF n (stabF n a) a i j = stabF n a i j := by
  apply Int.le_antisymm
  · rcases stab_met (n := n) (a := a) i j with h | ⟨k, hk, h⟩
    · rw [h]; exact gmul_le3 i j
    · have h1 := gmul_at (a := stabF n a) (b := a) (i := i) (j := j) hk
      have h2 := stab_at (a := a) (i := i) (j := k) hk
      have h3 := rep_ge (a k k)
      omega
  · refine le_gmul _ i j (stab_le3 i j) fun l hl => ?_
    rcases stab_met (n := n) (a := a) i l with h | ⟨k, hk, h⟩
    · have := stab_le3 (n := n) (a := a) i j; omega
    · have h1 := stab_at (a := a) (i := i) (j := j) hk
      have h2 := id_le hid hk hl hj
      omega
theorem stab_idem (hid : ∀ i k, i < n → k < n → gmulF n a a i k = a i k) {i j : Nat} (hi : i < n) (hj : j < n) : gmulF n (stabF n a) (stabF n a) i j = stabF n a i j := by
  apply Int.le_antisymm
  · rcases stab_met (n := n) (a := a) i j with h | ⟨k, hk, h⟩
    · rw [h]; exact gmul_le3 i j
    · have h1 := gmul_at (a := stabF n a) (b := stabF n a) (i := i) (j := j) hk
      have h2 := stab_at (a := a) (i := i) (j := k) hk
      have h4 := stab_at (a := a) (i := k) (j := j) hk
      have h3 := rep_ge (a k k)
      omega
  · refine le_gmul _ i j (stab_le3 i j) fun l hl => ?_
    have h0 := stab_le3 (n := n) (a := a) i j
    rcases stab_met (n := n) (a := a) i l with h | ⟨k, hk, h⟩
    · omega
    · rcases stab_met (n := n) (a := a) l j with h' | ⟨k', hk', h'⟩
      · omega
      · have h1 := stab_at (a := a) (i := i) (j := j) hk
        have h2 := id_le hid hk hl hj
        have h3 := id_le hid hl hk' hj
        omega
theorem stab_stab (hin : GIn n a) (hid : ∀ i k, i < n → k < n → gmulF n a a i k = a i k) {i j : Nat} (hi : i < n) (hj : j < n) : stabF n (stabF n a) i j = stabF n a i j := by
  apply Int.le_antisymm
  · rcases stab_met (n := n) (a := a) i j with h | ⟨k, hk, h⟩
    · rw [h]; exact stab_le3 i j
    · have h1 := stab_at (a := stabF n a) (i := i) (j := j) hk
      have h2 := stab_at (a := a) (i := i) (j := k) hk
      have h4 := stab_at (a := a) (i := k) (j := j) hk
      have h5 := stab_at (a := a) (i := k) (j := k) hk
      have h3 := rep_ge (a k k)
      have h6 : rep (stabF n a k k) ≤ rep (a k k) := by
        rw [← rep_rep (a k k)]; exact rep_mono (by omega)
      omega
  · exact stab_ge (stabF_in hin) (fun i k hi hk => stab_idem hid hi hk) hi hj

/-- Where a way leads on for ever, it meets some state again. -/
theorem stab_never (hin : GIn n a) (hid : ∀ i k, i < n → k < n → gmulF n a a i k = a i k) {i j : Nat} (hi : i < n) (hj : j < n) (h3 : stabF n a i j = 3) : a i j = 3 := by
  have hb := hin i j hi hj
  rcases Int.lt_or_le (a i j) 3 with hc | hc
  · exfalso
    obtain ⟨c, hcd⟩ : ∃ c, c = a i j := ⟨_, rfl⟩
    have step : ∀ x, (x < n ∧ a x j ≤ c) → ∃ l, l < n ∧ a x l ≤ c ∧ a l j ≤ c := fun x hx => by
      rcases gdot_met (a x) (fun l => a l j) n with h | ⟨l, hl, h⟩
      · have h' := hid x j hx.1 hj
        have e : gmulF n a a x j = gdot (a x) (fun l => a l j) n := rfl
        omega
      · have h' := hid x j hx.1 hj
        have e : gmulF n a a x j = gdot (a x) (fun l => a l j) n := rfl
        exact ⟨l, hl, by omega, by omega⟩
    obtain ⟨g, hg⟩ : ∃ g : Nat → Nat, ∀ x, (x < n ∧ a x j ≤ c) → g x < n ∧ a x (g x) ≤ c ∧ a (g x) j ≤ c :=
      ⟨fun x => if h : x < n ∧ a x j ≤ c then Classical.choose (step x h) else x, fun x hx => by
        show (if h : x < n ∧ a x j ≤ c then Classical.choose (step x h) else x) < n ∧ a x (if h : x < n ∧ a x j ≤ c then Classical.choose (step x h) else x) ≤ c ∧ a (if h : x < n ∧ a x j ≤ c then Classical.choose (step x h) else x) j ≤ c
        rw [dif_pos hx]; exact Classical.choose_spec (step x hx)⟩
    obtain ⟨f, hf0, hfs⟩ : ∃ f : Nat → Nat, f 0 = i ∧ ∀ t, f (t + 1) = g (f t) := ⟨fun t => Nat.rec i (fun _ x => g x) t, rfl, fun t => rfl⟩
    have inv : ∀ t, f t < n ∧ a (f t) j ≤ c := by
      intro t
      induction t with
      | zero => rw [hf0]; exact ⟨hi, by omega⟩
      | succ t ih => rw [hfs]; exact ⟨(hg _ ih).1, (hg _ ih).2.2⟩
    have far : ∀ s d, a (f s) (f (s + d + 1)) ≤ c := by
      intro s d
      induction d with
      | zero => rw [show s + 0 + 1 = s + 1 from rfl, hfs]; exact (hg _ (inv s)).2.1
      | succ d ih =>
        have h1 : a (f (s + d + 1)) (f (s + d + 1 + 1)) ≤ c := by rw [hfs (s + d + 1)]; exact (hg _ (inv _)).2.1
        have h2 := id_le hid (inv s).1 (inv (s + d + 1)).1 (inv (s + d + 1 + 1)).1
        show a (f s) (f (s + d + 1 + 1)) ≤ c
        omega
    obtain ⟨s, t, hst, _, he⟩ := pigeon n f (fun t _ => (inv t).1)
    have hkk : a (f s) (f s) ≤ c := by
      have h := far s (t - s - 1)
      rw [show s + (t - s - 1) + 1 = t by omega, ← he] at h
      exact h
    have hik : a i (f s) ≤ c := by
      rcases Nat.eq_zero_or_pos s with h0 | h0
      · rw [h0, hf0] at hkk ⊢; exact hkk
      · have h := far 0 (s - 1)
        rw [show 0 + (s - 1) + 1 = s by omega, hf0] at h
        exact h
    have hkj := (inv s).2
    have hat := stab_at (a := a) (i := i) (j := j) (inv s).1
    have hr : rep (a (f s) (f s)) ≤ 2 := by unfold rep; split <;> omega
    omega
  · omega
end

theorem cel_id {n : Nat} {a : List Int} (hid : gmulL n a a = a) : ∀ i k, i < n → k < n → gmulF n (cel n a) (cel n a) i k = cel n a i k := fun i k hi hk => by
  have h : cel n (gmulL n a a) i k = gmulF n (cel n a) (cel n a) i k := cel_ofF _ hi hk
  rw [← h, hid]
theorem cel_stab (n : Nat) (a : List Int) : ∀ i k, i < n → k < n → cel n (stabL n a) i k = stabF n (cel n a) i k := fun i k hi hk => cel_ofF _ hi hk
theorem stabL_left {n : Nat} {a : List Int} (hid : gmulL n a a = a) : gmulL n a (stabL n a) = stabL n a :=
  ofF_congr fun i k hi hk => (gmulF_congr (fun _ _ _ _ => rfl) (cel_stab n a) hi hk).trans (stab_left (cel_id hid) hi hk)
theorem stabL_right {n : Nat} {a : List Int} (hid : gmulL n a a = a) : gmulL n (stabL n a) a = stabL n a :=
  ofF_congr fun i k hi hk => (gmulF_congr (cel_stab n a) (fun _ _ _ _ => rfl) hi hk).trans (stab_right (cel_id hid) hi hk)
theorem stabL_idem {n : Nat} {a : List Int} (hid : gmulL n a a = a) : gmulL n (stabL n a) (stabL n a) = stabL n a :=
  ofF_congr fun i k hi hk => (gmulF_congr (cel_stab n a) (cel_stab n a) hi hk).trans (stab_idem (cel_id hid) hi hk)
theorem stabF_congr {n : Nat} {a b : MF} (h : ∀ i k, i < n → k < n → a i k = b i k) {i j : Nat} (hi : i < n) (hj : j < n) : stabF n a i j = stabF n b i j :=
  gdot_congr (fun l hl => by show max (a i l) (rep (a l l)) = max (b i l) (rep (b l l)); rw [h i l hi hl, h l l hl hl]) (fun l hl => h l j hl hj)
theorem stabL_stab {n : Nat} {a : List Int} (ha : GV n a) (hid : gmulL n a a = a) : stabL n (stabL n a) = stabL n a :=
  ofF_congr fun i k hi hk => (stabF_congr (cel_stab n a) hi hk).trans (stab_stab ha.in_ (cel_id hid) hi hk)
theorem stabL_cells {n q : Nat} {a : List Int} (ha : GV n a) (hid : gmulL n a a = a) (hq : q < n * n) : a.getD q 0 ≤ (stabL n a).getD q 0 ∧ ((stabL n a).getD q 0 = 3 → a.getD q 0 = 3) := by
  have hn : 0 < n := ha.lo
  have hi : q / n < n := Nat.div_lt_of_lt_mul hq
  have hk : q % n < n := Nat.mod_lt _ hn
  have e : (stabL n a).getD q 0 = stabF n (cel n a) (q / n) (q % n) := ofF_getD _ hq
  have e2 : cel n a (q / n) (q % n) = a.getD q 0 := by unfold cel; rw [Nat.mul_comm, Nat.div_add_mod]
  rw [e, ← e2]
  exact ⟨stab_ge ha.in_ (cel_id hid) hi hk, fun h => stab_never ha.in_ (cel_id hid) hi hk h⟩
end Go.Proofs.Ytaiplhddbmhodaa
