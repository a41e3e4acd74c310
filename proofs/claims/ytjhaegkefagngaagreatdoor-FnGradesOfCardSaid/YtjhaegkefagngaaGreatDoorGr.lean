/- Plain mathematics of matrices of grades (numbers 0 to 3): least ones of greater ones, units, what becomes of what is repeated, and their laws; the numbers row by row as a list. No condition but that the numbers are grades. -/
import Derived.Test.YtjhaegkefagngaaGreatDoorMat
namespace Go.Proofs.YtjhaegkefagngaaGreatDoor
set_option linter.unusedVariables false

/-- The least of the greater ones of the first n pairs, at most 3. -/
def gdot (f g : Nat → Int) : Nat → Int
  | 0 => 3
  | l + 1 => min (gdot f g l) (max (f l) (g l))
theorem le_gdot (f g : Nat → Int) (x : Int) : ∀ n, x ≤ gdot f g n ↔ x ≤ 3 ∧ ∀ l, l < n → x ≤ max (f l) (g l)
  | 0 => by simp [gdot]
  | n + 1 => by
    have ih := le_gdot f g x n
    simp only [gdot]
    constructor
    · intro h
      have h1 := ih.1 (by omega)
      refine ⟨h1.1, fun l hl => ?_⟩
      by_cases e : l = n
      · subst e; omega
      · exact h1.2 l (by omega)
    · intro h
      have h1 := ih.2 ⟨h.1, fun l hl => h.2 l (by omega)⟩
      have h2 := h.2 n (by omega)
      omega
theorem gdot_le (f g : Nat → Int) (n : Nat) : gdot f g n ≤ 3 := ((le_gdot f g _ n).1 (Int.le_refl _)).1
theorem gdot_ge {f g : Nat → Int} {n : Nat} (hf : ∀ l, l < n → 0 ≤ f l) (hg : ∀ l, l < n → 0 ≤ g l) : 0 ≤ gdot f g n :=
  (le_gdot f g 0 n).2 ⟨by omega, fun l hl => by have := hf l hl; have := hg l hl; omega⟩
theorem gdot_at (f g : Nat → Int) {n l : Nat} (hl : l < n) : gdot f g n ≤ max (f l) (g l) := ((le_gdot f g _ n).1 (Int.le_refl _)).2 l hl
/-- It is reached. -/
theorem gdot_met (f g : Nat → Int) : ∀ n, gdot f g n = 3 ∨ ∃ l, l < n ∧ gdot f g n = max (f l) (g l)
  | 0 => Or.inl rfl
  | n + 1 => by
    simp only [gdot]
    rcases Int.le_total (gdot f g n) (max (f n) (g n)) with h | h
    · rw [Int.min_eq_left h]
      rcases gdot_met f g n with e | ⟨l, hl, e⟩
      · exact Or.inl e
      · exact Or.inr ⟨l, by omega, e⟩
    · rw [Int.min_eq_right h]
      exact Or.inr ⟨n, by omega, rfl⟩
theorem gdot_congr {f g f' g' : Nat → Int} : ∀ {n : Nat}, (∀ l, l < n → f l = f' l) → (∀ l, l < n → g l = g' l) → gdot f g n = gdot f' g' n
  | 0, _, _ => rfl
  | n + 1, h, k => by
    simp only [gdot]
    rw [gdot_congr (fun l hl => h l (by omega)) (fun l hl => k l (by omega)), h n (by omega), k n (by omega)]

def gmulF (n : Nat) (a b : MF) : MF := fun i k => gdot (a i) (fun l => b l k) n
def gunitF : MF := fun i k => if i = k then 0 else 3
def rep (g : Int) : Int := if g = 1 then 2 else g
/-- The way from each to itself, again and again. -/
def loopF (a : MF) : MF := fun i k => if i = k then rep (a i i) else 3
def stabF (n : Nat) (a : MF) : MF := fun i j => gdot (fun k => max (a i k) (rep (a k k))) (fun k => a k j) n
/-- All are grades. -/
def GIn (n : Nat) (a : MF) : Prop := ∀ i k, i < n → k < n → 0 ≤ a i k ∧ a i k ≤ 3
theorem rep_ge (g : Int) : g ≤ rep g := by unfold rep; split <;> omega
theorem rep_in {g : Int} (h : 0 ≤ g ∧ g ≤ 3) : 0 ≤ rep g ∧ rep g ≤ 3 := by unfold rep; split <;> omega
theorem rep_mono {a b : Int} (h : a ≤ b) : rep a ≤ rep b := by unfold rep; split <;> split <;> omega
theorem rep_rep (a : Int) : rep (rep a) = rep a := by unfold rep; split <;> rename_i h <;> (try rw [if_neg (by omega)]) <;> (try rfl)
theorem gmulF_in {n : Nat} {a b : MF} (ha : GIn n a) (hb : GIn n b) : GIn n (gmulF n a b) := fun i k hi hk =>
  ⟨gdot_ge (fun l hl => (ha i l hi hl).1) (fun l hl => (hb l k hl hk).1), gdot_le _ _ _⟩
theorem gunitF_in (n : Nat) : GIn n gunitF := fun i k _ _ => by unfold gunitF; split <;> omega
theorem loopF_in {n : Nat} {a : MF} (ha : GIn n a) : GIn n (loopF a) := fun i k hi hk => by
  unfold loopF; split
  · exact rep_in (ha i i hi hi)
  · omega
theorem stabF_in {n : Nat} {a : MF} (ha : GIn n a) : GIn n (stabF n a) := fun i j hi hj =>
  ⟨gdot_ge (fun l hl => by have := ha i l hi hl; omega) (fun l hl => (ha l j hl hj).1), gdot_le _ _ _⟩
theorem gmulF_congr {n : Nat} {a b a' b' : MF} (ha : ∀ i k, i < n → k < n → a i k = a' i k) (hb : ∀ i k, i < n → k < n → b i k = b' i k) {i k : Nat} (hi : i < n) (hk : k < n) : gmulF n a b i k = gmulF n a' b' i k :=
  gdot_congr (fun l hl => ha i l hi hl) (fun l hl => hb l k hl hk)
theorem gmulF_assoc {n : Nat} (a b c : MF) (i k : Nat) : gmulF n (gmulF n a b) c i k = gmulF n a (gmulF n b c) i k := by
  apply eq_of_le
  intro x
  unfold gmulF
  rw [le_gdot, le_gdot]
  constructor
  · rintro ⟨hx, h⟩
    refine ⟨hx, fun l hl => ?_⟩
    by_cases e : x ≤ a i l
    · omega
    · have : x ≤ gdot (b l) (fun m => c m k) n := (le_gdot _ _ _ _).2 ⟨hx, fun m hm => by
        have h1 : x ≤ max (gdot (a i) (fun l => b l m) n) (c m k) := h m hm
        have h2 : gdot (a i) (fun l => b l m) n ≤ max (a i l) (b l m) := gdot_at (a i) (fun l => b l m) hl
        show x ≤ max (b l m) (c m k)
        omega⟩
      omega
  · rintro ⟨hx, h⟩
    refine ⟨hx, fun m hm => ?_⟩
    by_cases e : x ≤ c m k
    · omega
    · have : x ≤ gdot (a i) (fun l => b l m) n := (le_gdot _ _ _ _).2 ⟨hx, fun l hl => by
        have h1 : x ≤ max (a i l) (gdot (b l) (fun m => c m k) n) := h l hl
        have h2 : gdot (b l) (fun m => c m k) n ≤ max (b l m) (c m k) := gdot_at (b l) (fun m => c m k) hm
        show x ≤ max (a i l) (b l m)
        omega⟩
      omega
theorem gmulF_unit {n : Nat} {a : MF} (ha : GIn n a) {i k : Nat} (hi : i < n) (hk : k < n) : gmulF n a gunitF i k = a i k := by
  apply eq_of_le
  intro x
  unfold gmulF
  rw [le_gdot]
  have hb := ha i k hi hk
  constructor
  · rintro ⟨_, h⟩
    have h1 := h k hk
    simp only [gunitF, if_pos] at h1
    omega
  · intro h
    refine ⟨by omega, fun l hl => ?_⟩
    by_cases e : l = k
    · subst e; simp only [gunitF, if_pos]; omega
    · simp only [gunitF, if_neg e]; have := ha i l hi hl; omega
theorem gunit_mulF {n : Nat} {a : MF} (ha : GIn n a) {i k : Nat} (hi : i < n) (hk : k < n) : gmulF n gunitF a i k = a i k := by
  apply eq_of_le
  intro x
  unfold gmulF
  rw [le_gdot]
  have hb := ha i k hi hk
  constructor
  · rintro ⟨_, h⟩
    have h1 := h i hi
    simp only [gunitF, if_pos] at h1
    omega
  · intro h
    refine ⟨by omega, fun l hl => ?_⟩
    by_cases e : i = l
    · subst e; simp only [gunitF, if_pos]; omega
    · simp only [gunitF, if_neg e]; have := ha l k hl hk; omega
/-- Some way, the way round there, and some way on from it: two products. -/
theorem gmulF_loop {n : Nat} {a : MF} (ha : GIn n a) {i j : Nat} (hi : i < n) (hj : j < n) : gmulF n (gmulF n a (loopF a)) a i j = stabF n a i j := by
  unfold stabF
  show gdot (gmulF n a (loopF a) i) (fun k => a k j) n = _
  refine gdot_congr (fun k hk => ?_) (fun _ _ => rfl)
  apply eq_of_le
  intro x
  unfold gmulF
  rw [le_gdot]
  have h1 := ha i k hi hk
  have h2 := rep_in (ha k k hk hk)
  constructor
  · rintro ⟨_, h⟩
    have h3 := h k hk
    simp only [loopF, if_pos] at h3
    omega
  · intro h
    refine ⟨by omega, fun l hl => ?_⟩
    by_cases e : l = k
    · subst e; simp only [loopF, if_pos]; omega
    · simp only [loopF, if_neg e]; omega

/-! Row by row as a list. -/
def gvld (c : Int) : Bool := decide (0 ≤ c ∧ c ≤ 3)
theorem gvld_t {c : Int} (h : gvld c = true) : 0 ≤ c ∧ c ≤ 3 := by simpa [gvld] using h
theorem gvld_yes {c : Int} (h : 0 ≤ c ∧ c ≤ 3) : gvld c = true := by simpa [gvld] using h
theorem gvld_f {c : Int} (h : gvld c = false) : ¬ (0 ≤ c ∧ c ≤ 3) := by simp only [gvld, decide_eq_false_iff_not] at h; exact h
def gAll (zs : List Int) : Bool := zs.all gvld
theorem gAll_t {z : Int} {zs : List Int} (h : gvld z = true) : gAll (z :: zs) = gAll zs := by simp [gAll, h]
theorem gAll_f {z : Int} {zs : List Int} (h : gvld z = false) : gAll (z :: zs) = false := by simp [gAll, h]
theorem gAll_all {zs : List Int} (h : gAll zs = true) : allV zs = true :=
  List.all_eq_true.2 fun z hz => vld_yes (by have := gvld_t (List.all_eq_true.1 h z hz); omega)
/-- A matrix of grades. -/
structure GV (n : Nat) (zs : List Int) : Prop where
  lo : 1 ≤ n
  hi : n ≤ 4
  len : zs.length = n * n
  all : gAll zs = true
theorem GV.mv {n : Nat} {zs : List Int} (h : GV n zs) : MV n zs := ⟨h.lo, h.hi, h.len, gAll_all h.all⟩
theorem GV.in_ {n : Nat} {zs : List Int} (h : GV n zs) : GIn n (cel n zs) := fun i k hi hk => by
  have hp := at_lt hi hk
  unfold cel
  rw [List.getD_eq_getElem?_getD, List.getElem?_eq_getElem (by rw [h.len]; exact hp)]
  exact gvld_t (List.all_eq_true.1 h.all _ (List.getElem_mem _))
theorem GV.at_ {n p q : Nat} {zs : List Int} (h : GV n zs) (hp : p = n * n) (hq : q < p) : 0 ≤ zs.getD q 0 ∧ zs.getD q 0 ≤ 3 := by
  rw [List.getD_eq_getElem?_getD, List.getElem?_eq_getElem (by rw [h.len, ← hp]; exact hq)]
  exact gvld_t (List.all_eq_true.1 h.all _ (List.getElem_mem _))
theorem gofF_all {n : Nat} {f : MF} (h : GIn n f) : gAll (ofF n f) = true := by
  apply List.all_eq_true.2
  intro z hz
  obtain ⟨p, hp, rfl⟩ := List.mem_map.1 hz
  have hp' := List.mem_range.1 hp
  exact gvld_yes (h _ _ (div_lt_ hp') (mod_lt_ hp'))
theorem GV.of_ {n : Nat} {f : MF} (h1 : 1 ≤ n) (h2 : n ≤ 4) (h : GIn n f) : GV n (ofF n f) := ⟨h1, h2, ofF_len n f, gofF_all h⟩
def gradeOk (m : Int) (zs : List Int) : Bool := matOk m zs && gAll zs
theorem gradeOk_t {m : Int} {zs : List Int} (h : gradeOk m zs = true) : ∃ n : Nat, m = (n : Int) ∧ GV n zs := by
  simp only [gradeOk, Bool.and_eq_true] at h
  obtain ⟨n, e, mv⟩ := matOk_t h.1
  exact ⟨n, e, mv.lo, mv.hi, mv.len, h.2⟩
theorem gradeOk_mk {n : Nat} {zs : List Int} (h : GV n zs) : gradeOk n zs = true := by
  simp only [gradeOk, Bool.and_eq_true]; exact ⟨matOk_mk h.mv, h.all⟩
theorem gradeOk_mat {m : Int} {zs : List Int} (h : matOk m zs = false) : gradeOk m zs = false := by simp [gradeOk, h]
theorem gradeOk_cells {m : Int} {zs : List Int} (h : gAll zs = false) : gradeOk m zs = false := by simp [gradeOk, h]
theorem gradeOk_all {m : Int} {zs : List Int} (h : matOk m zs = true) : gradeOk m zs = gAll zs := by simp [gradeOk, h]
theorem gradeOk_mat_t {m : Int} {zs : List Int} (h : gAll zs = true) : gradeOk m zs = matOk m zs := by simp [gradeOk, h]

def gmulL (n : Nat) (a b : List Int) : List Int := ofF n (gmulF n (cel n a) (cel n b))
def gunitL (n : Nat) : List Int := ofF n gunitF
def loopL (n : Nat) (a : List Int) : List Int := ofF n (loopF (cel n a))
def stabL (n : Nat) (a : List Int) : List Int := ofF n (stabF n (cel n a))
theorem gmulL_ok {n : Nat} {a b : List Int} (ha : GV n a) (hb : GV n b) : GV n (gmulL n a b) := GV.of_ ha.lo ha.hi (gmulF_in ha.in_ hb.in_)
theorem gunitL_ok {n : Nat} (h1 : 1 ≤ n) (h2 : n ≤ 4) : GV n (gunitL n) := GV.of_ h1 h2 (gunitF_in n)
theorem loopL_ok {n : Nat} {a : List Int} (ha : GV n a) : GV n (loopL n a) := GV.of_ ha.lo ha.hi (loopF_in ha.in_)
theorem stabL_ok {n : Nat} {a : List Int} (ha : GV n a) : GV n (stabL n a) := GV.of_ ha.lo ha.hi (stabF_in ha.in_)
theorem gmulL_assoc (n : Nat) (a b c : List Int) : gmulL n (gmulL n a b) c = gmulL n a (gmulL n b c) :=
  ofF_congr fun i k hi hk => by
    refine (gmulF_congr (a' := gmulF n (cel n a) (cel n b)) (b' := cel n c) (fun i k hi hk => cel_ofF _ hi hk) (fun _ _ _ _ => rfl) hi hk).trans ?_
    rw [gmulF_assoc]
    exact (gmulF_congr (a' := cel n a) (b' := gmulF n (cel n b) (cel n c)) (fun _ _ _ _ => rfl) (fun i k hi hk => cel_ofF _ hi hk) hi hk).symm
theorem gmulL_unit {n : Nat} {a : List Int} (ha : GV n a) : gmulL n a (gunitL n) = a :=
  (ofF_congr fun i k hi hk => (gmulF_congr (a' := cel n a) (b' := gunitF) (fun _ _ _ _ => rfl) (fun i k hi hk => cel_ofF _ hi hk) hi hk).trans (gmulF_unit ha.in_ hi hk)).trans (ofF_cel ha.len)
theorem gunit_mulL {n : Nat} {a : List Int} (ha : GV n a) : gmulL n (gunitL n) a = a :=
  (ofF_congr fun i k hi hk => (gmulF_congr (a' := gunitF) (b' := cel n a) (fun i k hi hk => cel_ofF _ hi hk) (fun _ _ _ _ => rfl) hi hk).trans (gunit_mulF ha.in_ hi hk)).trans (ofF_cel ha.len)
theorem gmulL_loop {n : Nat} {a : List Int} (ha : GV n a) : gmulL n (gmulL n a (loopL n a)) a = stabL n a :=
  ofF_congr fun i k hi hk => by
    have e1 : ∀ i k, i < n → k < n → cel n (gmulL n a (loopL n a)) i k = gmulF n (cel n a) (loopF (cel n a)) i k := fun i k hi hk =>
      (cel_ofF _ hi hk).trans (gmulF_congr (fun _ _ _ _ => rfl) (fun i k hi hk => cel_ofF _ hi hk) hi hk)
    exact (gmulF_congr e1 (fun _ _ _ _ => rfl) hi hk).trans (gmulF_loop ha.in_ hi hk)
end Go.Proofs.YtjhaegkefagngaaGreatDoor
