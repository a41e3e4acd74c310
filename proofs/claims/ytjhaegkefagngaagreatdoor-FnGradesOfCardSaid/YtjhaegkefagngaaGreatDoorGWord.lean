/- Plain mathematics of grades of words: the grades of a product are the product of the grades as long as no cost is great, and the grade from starts to finals tells what the word costs. Conditions: the automaton is valid, the word has at most 1000 letters. -/
import Derived.Test.YtjhaegkefagngaaGreatDoorPathT
import Derived.Test.YtjhaegkefagngaaGreatDoorGFace
import Derived.Test.YtjhaegkefagngaaGreatDoorGBet
namespace Go.Proofs.YtjhaegkefagngaaGreatDoor
open Go.RowKit
set_option linter.unusedVariables false

theorem dot_met (f g : Nat → Int) : ∀ n, dot f g n = 1000000 ∨ ∃ l, l < n ∧ dot f g n = f l + g l
  | 0 => Or.inl rfl
  | n + 1 => by
    simp only [dot]
    have hM := dot_le f g n
    rcases Int.le_total (dot f g n) (f n + g n) with h | h
    · rw [show min (dot f g n) (min (f n + g n) 1000000) = dot f g n by omega]
      rcases dot_met f g n with e | ⟨l, hl, e⟩
      · exact Or.inl e
      · exact Or.inr ⟨l, by omega, e⟩
    · rw [show min (dot f g n) (min (f n + g n) 1000000) = f n + g n by omega]
      exact Or.inr ⟨n, by omega, rfl⟩
/-- Small, or what can't be had. -/
def Low (b c : Int) : Prop := 0 ≤ c ∧ (c ≤ b ∨ c = 1000000)
theorem Low.mono {b b' c : Int} (h : Low b c) (hb : b ≤ b') : Low b' c := ⟨h.1, by rcases h.2 with h | h; exact Or.inl (by omega); exact Or.inr h⟩
theorem dot_low {f g : Nat → Int} {n : Nat} {b b' : Int} (hb : 0 ≤ b) (hb' : 0 ≤ b') (hs : b + b' ≤ 1000000) (hf : ∀ l, l < n → Low b (f l)) (hg : ∀ l, l < n → Low b' (g l)) : Low (b + b') (dot f g n) := by
  refine ⟨dot_ge (fun l hl => (hf l hl).1) (fun l hl => (hg l hl).1), ?_⟩
  have h1 := dot_le f g n
  rcases dot_met f g n with e | ⟨l, hl, e⟩
  · exact Or.inr e
  · obtain ⟨f0, f1⟩ := hf l hl
    obtain ⟨g0, g1⟩ := hg l hl
    rcases f1 with f1 | f1
    · rcases g1 with g1 | g1
      · left; omega
      · right; omega
    · right; omega
theorem cellF_low {n : Nat} {ss : List StepD} (hok : ∀ s ∈ ss, stepOk n s = true) (l : ByteArray) (i k : Nat) : Low 3 (cellF (costAt ss) l i k) := by
  unfold cellF
  rcases h : costAt ss i l k with _ | c
  · exact ⟨by simp, Or.inr rfl⟩
  · have := costAt_in hok h
    exact ⟨by simp only [Option.getD_some]; omega, Or.inl (by simp only [Option.getD_some]; omega)⟩
theorem prodL_low {n : Nat} {ss : List StepD} (n1 : 1 ≤ n) (n2 : n ≤ 4) (hok : ∀ s ∈ ss, stepOk n s = true) : ∀ (k : Nat) (l : List UInt8), l.length = k → k ≤ 1000 → ∀ i j, i < n → j < n → Low (3 * (k : Int)) (cel n (prodL n ss l) i j)
  | 0, l, hl, _, i, j, hi, hj => by
    rw [List.eq_nil_of_length_eq_zero hl]
    show Low _ (cel n (ofF n unitF) i j)
    rw [cel_ofF _ hi hj]
    unfold unitF
    split
    · exact ⟨by omega, Or.inl (by omega)⟩
    · exact ⟨by omega, Or.inr rfl⟩
  | k + 1, l, hl, hk, i, j, hi, hj => by
    have hne : l ≠ [] := fun e => by rw [e] at hl; cases hl
    have e : l = l.dropLast ++ [l.getLast hne] := (List.dropLast_concat_getLast hne).symm
    have hlk : l.dropLast.length = k := by simp; omega
    rw [e, prodL_snoc]
    show Low _ (cel n (ofF n (mulF n (cel n (prodL n ss l.dropLast)) (cel n (stepL n ss _)))) i j)
    rw [cel_ofF _ hi hj]
    unfold mulF
    have h := dot_low (f := cel n (prodL n ss l.dropLast) i) (g := fun q => cel n (stepL n ss (ltr (l.getLast hne))) q j) (n := n) (b := 3 * (k : Int)) (b' := 3) (by omega) (by omega) (by omega)
      (fun q hq => prodL_low n1 n2 hok k _ hlk (by omega) i q hi hq)
      (fun q hq => by
        show Low 3 (cel n (ofF n (cellF (costAt ss) _)) q j)
        rw [cel_ofF _ hq hj]; exact cellF_low hok _ _ _)
    have e2 : 3 * (((k + 1 : Nat)) : Int) = 3 * (k : Int) + 3 := by omega
    rw [e2]
    exact h
theorem gr_step {D x y : Int} (h0 : 0 ≤ D) (h1 : D ≤ 1000000) (hx : Low 5000 x) (hy : Low 5000 y) : gr (min D (min (x + y) 1000000)) = min (gr D) (max (gr x) (gr y)) := by
  obtain ⟨x0, x1⟩ := hx
  obtain ⟨y0, y1⟩ := hy
  have hg : ∀ c : Int, gr c = 0 ∧ c = 0 ∨ gr c = 3 ∧ c = 1000000 ∨ gr c = 1 ∧ c ≠ 0 ∧ c ≠ 1000000 := fun c => by
    unfold gr
    split
    · exact Or.inl ⟨rfl, ‹_›⟩
    · split
      · exact Or.inr (Or.inl ⟨rfl, ‹_›⟩)
      · exact Or.inr (Or.inr ⟨rfl, ‹_›, ‹_›⟩)
  have a1 := hg D
  have a2 := hg x
  have a3 := hg y
  have a4 := hg (min D (min (x + y) 1000000))
  omega
theorem gr_min {a b : Int} (h1 : 0 ≤ a ∧ a ≤ 1000000) (h2 : 0 ≤ b ∧ b ≤ 1000000) : gr (min a b) = min (gr a) (gr b) := by
  have hg : ∀ c : Int, gr c = 0 ∧ c = 0 ∨ gr c = 3 ∧ c = 1000000 ∨ gr c = 1 ∧ c ≠ 0 ∧ c ≠ 1000000 := fun c => by
    unfold gr
    split
    · exact Or.inl ⟨rfl, ‹_›⟩
    · split
      · exact Or.inr (Or.inl ⟨rfl, ‹_›⟩)
      · exact Or.inr (Or.inr ⟨rfl, ‹_›, ‹_›⟩)
  have a1 := hg a
  have a2 := hg b
  have a4 := hg (min a b)
  omega
theorem gr_dot {f g : Nat → Int} : ∀ {n : Nat}, (∀ l, l < n → Low 5000 (f l)) → (∀ l, l < n → Low 5000 (g l)) → gr (dot f g n) = gdot (fun l => gr (f l)) (fun l => gr (g l)) n
  | 0, _, _ => rfl
  | n + 1, hf, hg => by
    have ih := gr_dot (f := f) (g := g) (n := n) (fun l hl => hf l (by omega)) (fun l hl => hg l (by omega))
    show gr (min (dot f g n) (min (f n + g n) 1000000)) = min (gdot _ _ n) (max (gr (f n)) (gr (g n)))
    rw [gr_step (dot_ge (fun l hl => (hf l (by omega)).1) (fun l hl => (hg l (by omega)).1)) (dot_le _ _ _) (hf n (by omega)) (hg n (by omega)), ih]
theorem grL_ofF (n : Nat) (f : MF) : grL (ofF n f) = ofF n (fun i k => gr (f i k)) := by unfold grL ofF; rw [List.map_map]; rfl
theorem cel_grL {n : Nat} {zs : List Int} (hl : zs.length = n * n) {i k : Nat} (hi : i < n) (hk : k < n) : cel n (grL zs) i k = gr (cel n zs i k) := by
  unfold cel
  exact grL_at (by rw [hl]; exact at_lt hi hk)
theorem grL_mul {n : Nat} {a b : List Int} (ha : a.length = n * n) (hb : b.length = n * n) (la : ∀ i j, i < n → j < n → Low 5000 (cel n a i j)) (lb : ∀ i j, i < n → j < n → Low 5000 (cel n b i j)) : grL (mulL n a b) = gmulL n (grL a) (grL b) := by
  unfold mulL gmulL
  rw [grL_ofF]
  refine ofF_congr (fun i k hi hk => ?_)
  show gr (dot (cel n a i) (fun l => cel n b l k) n) = gdot (cel n (grL a) i) (fun l => cel n (grL b) l k) n
  rw [gr_dot (fun l hl => la i l hi hl) (fun l hl => lb l k hl hk)]
  exact gdot_congr (fun l hl => (cel_grL ha hi hl).symm) (fun l hl => (cel_grL hb hl hk).symm)
/-- One letter more. -/
theorem grL_next {n : Nat} {ss : List StepD} (n1 : 1 ≤ n) (n2 : n ≤ 4) (hok : ∀ s ∈ ss, stepOk n s = true) (l : List UInt8) (b : UInt8) (hl : l.length ≤ 1000) : gmulL n (grL (prodL n ss l)) (grL (stepL n ss (ltr b))) = grL (prodL n ss (l ++ [b])) := by
  rw [prodL_snoc, grL_mul (prodL_ok n1 n2 hok l).len (stepL_ok n1 n2 hok _).len (fun i j hi hj => (prodL_low n1 n2 hok _ l rfl hl i j hi hj).mono (by omega)) (fun i j hi hj => by
    show Low 5000 (cel n (ofF n (cellF (costAt ss) _)) i j)
    rw [cel_ofF _ hi hj]; exact (cellF_low hok _ _ _).mono (by omega))]
theorem grL_one (n : Nat) : grL (unitL n) = gunitL n := by
  unfold grL unitL gunitL ofF
  rw [List.map_map]
  apply List.map_congr_left
  intro p _
  show gr (unitF (p / n) (p % n)) = gunitF (p / n) (p % n)
  unfold unitF gunitF
  split <;> rfl
theorem grL_ok {n : Nat} {zs : List Int} (h : MV n zs) : GV n (grL zs) := by
  refine ⟨h.lo, h.hi, by rw [grL_len]; exact h.len, ?_⟩
  rw [gAll, List.all_eq_true]
  intro z hz
  obtain ⟨c, _, rfl⟩ := List.mem_map.1 hz
  unfold gr
  split
  · rfl
  · split <;> rfl
/-! From starts to finals. -/
theorem betIn_gr {n : Nat} {zs : List Int} (n1 : 1 ≤ n) (hl : zs.length = n * n) (hz : ∀ p, p < n * n → 0 ≤ zs.getD p 0 ∧ zs.getD p 0 ≤ 1000000) {x : Int} (hx : 0 ≤ x ∧ x < (n : Int)) : ∀ (ys : List Int) (acc : Int), (∀ y ∈ ys, 0 ≤ y ∧ y < (n : Int)) → 0 ≤ acc ∧ acc ≤ 1000000 →
    betIn n (grL zs) x (gr acc) ys = gr (leastYF n zs x acc ys) ∧ (0 ≤ leastYF n zs x acc ys ∧ leastYF n zs x acc ys ≤ 1000000)
  | [], acc, _, ha => ⟨rfl, ha⟩
  | y :: ys, acc, hy, ha => by
    have hy0 := hy y (List.mem_cons_self ..)
    obtain ⟨a, rfl⟩ := Int.eq_ofNat_of_zero_le hx.1
    obtain ⟨b, rfl⟩ := Int.eq_ofNat_of_zero_le hy0.1
    have hp : a * n + b < n * n := at_lt (by omega) (by omega)
    have e : ((a : Int) * (n : Int) + (b : Int)).toNat = a * n + b := by
      have : (a : Int) * (n : Int) + (b : Int) = ((a * n + b : Nat) : Int) := by simp
      rw [this]; exact Int.toNat_natCast _
    have h1 := hz _ hp
    unfold betIn leastYF
    rw [e, Int.toNat_natCast, Int.toNat_natCast, grL_at (by rw [hl]; exact hp), ← gr_min ha h1]
    exact betIn_gr n1 hl hz hx ys _ (fun y' h => hy y' (List.mem_cons_of_mem _ h)) ⟨by omega, by omega⟩
theorem betF_gr {n : Nat} {zs ys : List Int} (n1 : 1 ≤ n) (hl : zs.length = n * n) (hz : ∀ p, p < n * n → 0 ≤ zs.getD p 0 ∧ zs.getD p 0 ≤ 1000000) (hy : ∀ y ∈ ys, 0 ≤ y ∧ y < (n : Int)) : ∀ (xs : List Int) (acc : Int), (∀ x ∈ xs, 0 ≤ x ∧ x < (n : Int)) → 0 ≤ acc ∧ acc ≤ 1000000 →
    betF n (grL zs) ys (gr acc) xs = gr (leastXF n zs ys acc xs)
  | [], acc, _, ha => rfl
  | x :: xs, acc, hx, ha => by
    have h := betIn_gr n1 hl hz (hx x (List.mem_cons_self ..)) ys acc hy ha
    unfold betF leastXF
    rw [h.1]
    exact betF_gr n1 hl hz hy xs _ (fun x' h' => hx x' (List.mem_cons_of_mem _ h')) h.2
/-- The grade of a word tells what it costs. -/
theorem bet_word {n : Nat} {xs ys : List Int} {ss : List StepD} {l : List UInt8} (h : autoOk n xs ys ss = true) : betR n xs ys ss n (grL (prodL n ss l)) = gr (costF n xs ys ss l) ∧ 0 ≤ costF n xs ys ss l ∧ costF n xs ys ss l ≤ 1000000 := by
  obtain ⟨n', hn, n1, n2, hx, hy, _, hs⟩ := auto_in h
  have e : n = n' := by omega
  subst e
  have mv := prodL_ok n1 n2 hs l
  have hz : ∀ p, p < n * n → 0 ≤ (prodL n ss l).getD p 0 ∧ (prodL n ss l).getD p 0 ≤ 1000000 := fun p hp => by
    have := mv.in_ (p / n) (p % n) (div_lt_ hp) (mod_lt_ hp)
    unfold cel at this
    rw [show p / n * n + p % n = p from Nat.div_add_mod' p n] at this
    exact this
  have hgo : gradeOk (n : Int) (grL (prodL n ss l)) = true := gradeOk_mk (grL_ok mv)
  rw [bet_yes h hgo, ← cost_eq n2 hx hy hs l]
  have h3 := betF_gr n1 mv.len hz hy xs 1000000 hx ⟨by omega, by omega⟩
  refine ⟨h3, ?_⟩
  rw [cost_eq n2 hx hy hs l]
  unfold costF
  refine ⟨(le_leastV _ _ _ _).2 ⟨by omega, fun k hk hky => ((alongV_in hx hs l) k).1⟩, ((le_leastV _ _ _ _).1 (Int.le_refl _)).1⟩
theorem gr_zero {c : Int} (h : 0 ≤ c ∧ c ≤ 1000000) : (gr c == 0) = (c == 0) := by
  unfold gr
  split
  · rename_i e; subst e; rfl
  · rename_i e
    have : (c == 0) = false := by rw [beq_eq_false_iff_ne]; exact e
    rw [this]
    split <;> rfl
theorem gr_never {c : Int} (h : 0 ≤ c ∧ c ≤ 1000000) : (gr c == 3) = (c == 1000000) := by
  unfold gr
  split
  · rename_i e; subst e; rfl
  · split
    · rename_i e; subst e; rfl
    · rename_i e
      have : (c == 1000000) = false := by rw [beq_eq_false_iff_ne]; exact e
      rw [this]; rfl
end Go.Proofs.YtjhaegkefagngaaGreatDoor
