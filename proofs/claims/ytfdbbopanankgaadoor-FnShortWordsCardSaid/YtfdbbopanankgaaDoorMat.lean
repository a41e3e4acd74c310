/- Plain mathematics of matrices of costs: least sums, units, turned ones, lesser ones, and their laws; the numbers row by row as a list. No condition but that the numbers are costs. -/
import Derived.Test.YtfdbbopanankgaaDoorPlain
namespace Go.Proofs.YtfdbbopanankgaaDoor
set_option linter.unusedVariables false

/-- The least sum of the first n pairs, at most 1000000. -/
def dot (f g : Nat → Int) : Nat → Int
  | 0 => 1000000
  | l + 1 => min (dot f g l) (min (f l + g l) 1000000)
theorem le_dot (f g : Nat → Int) (x : Int) : ∀ n, x ≤ dot f g n ↔ x ≤ 1000000 ∧ ∀ l, l < n → x ≤ f l + g l
  | 0 => by simp [dot]
  | n + 1 => by
    have ih := le_dot f g x n
    simp only [dot]
    constructor
    · intro h
      have h1 := ih.1 (by omega)
      refine ⟨h1.1, fun l hl => ?_⟩
      by_cases e : l = n
      · subst e; omega
      · exact h1.2 l (by omega)
    · intro h
      have h1 := ih.2 ⟨h.1, fun l hl => h.2 l (by omega)⟩
      have h2 := h.2 n (by omega)
      have h3 := h.1
      omega
theorem dot_le (f g : Nat → Int) (n : Nat) : dot f g n ≤ 1000000 := ((le_dot f g _ n).1 (Int.le_refl _)).1
theorem dot_ge {f g : Nat → Int} {n : Nat} (hf : ∀ l, l < n → 0 ≤ f l) (hg : ∀ l, l < n → 0 ≤ g l) : 0 ≤ dot f g n :=
  (le_dot f g 0 n).2 ⟨by omega, fun l hl => by have := hf l hl; have := hg l hl; omega⟩
theorem dot_at (f g : Nat → Int) {n l : Nat} (hl : l < n) : dot f g n ≤ f l + g l := ((le_dot f g _ n).1 (Int.le_refl _)).2 l hl
theorem dot_congr {f g f' g' : Nat → Int} : ∀ {n : Nat}, (∀ l, l < n → f l = f' l) → (∀ l, l < n → g l = g' l) → dot f g n = dot f' g' n
  | 0, _, _ => rfl
  | n + 1, h, k => by
    simp only [dot]
    rw [dot_congr (fun l hl => h l (by omega)) (fun l hl => k l (by omega)), h n (by omega), k n (by omega)]
theorem eq_of_le {a b : Int} (h : ∀ x, x ≤ a ↔ x ≤ b) : a = b := by
  have h1 := (h a).1 (Int.le_refl _)
  have h2 := (h b).2 (Int.le_refl _)
  omega

abbrev MF := Nat → Nat → Int
def mulF (n : Nat) (a b : MF) : MF := fun i k => dot (a i) (fun l => b l k) n
def minF (a b : MF) : MF := fun i k => min (a i k) (b i k)
def turnF (a : MF) : MF := fun i k => a k i
def unitF : MF := fun i k => if i = k then 0 else 1000000
/-- All are costs. -/
def InR (n : Nat) (a : MF) : Prop := ∀ i k, i < n → k < n → 0 ≤ a i k ∧ a i k ≤ 1000000

theorem mulF_in {n : Nat} {a b : MF} (ha : InR n a) (hb : InR n b) : InR n (mulF n a b) := fun i k hi hk =>
  ⟨dot_ge (fun l hl => (ha i l hi hl).1) (fun l hl => (hb l k hl hk).1), dot_le _ _ _⟩
theorem minF_in {n : Nat} {a b : MF} (ha : InR n a) (hb : InR n b) : InR n (minF a b) := fun i k hi hk => by
  have := ha i k hi hk; have := hb i k hi hk; unfold minF; omega
theorem turnF_in {n : Nat} {a : MF} (ha : InR n a) : InR n (turnF a) := fun i k hi hk => ha k i hk hi
theorem unitF_in (n : Nat) : InR n unitF := fun i k _ _ => by unfold unitF; split <;> omega

theorem mulF_assoc {n : Nat} {a b c : MF} (ha : InR n a) (hb : InR n b) (hc : InR n c) {i k : Nat} (hi : i < n) (hk : k < n) :
    mulF n (mulF n a b) c i k = mulF n a (mulF n b c) i k := by
  apply eq_of_le
  intro x
  unfold mulF
  rw [le_dot, le_dot]
  constructor
  · rintro ⟨hx, h⟩
    refine ⟨hx, fun l hl => ?_⟩
    have : x - a i l ≤ dot (b l) (fun m => c m k) n := by
      refine (le_dot _ _ _ _).2 ⟨by have := ha i l hi hl; omega, fun m hm => ?_⟩
      have h1 := h m hm
      have h2 : dot (a i) (fun l => b l m) n ≤ a i l + b l m := dot_at (a i) (fun l => b l m) hl
      have h3 : x ≤ dot (a i) (fun l => b l m) n + c m k := h1
      show x - a i l ≤ b l m + c m k
      omega
    omega
  · rintro ⟨hx, h⟩
    refine ⟨hx, fun m hm => ?_⟩
    have : x - c m k ≤ dot (a i) (fun l => b l m) n := by
      refine (le_dot _ _ _ _).2 ⟨by have := hc m k hm hk; omega, fun l hl => ?_⟩
      have h1 := h l hl
      have h2 : dot (b l) (fun m => c m k) n ≤ b l m + c m k := dot_at (b l) (fun m => c m k) hm
      have h3 : x ≤ a i l + dot (b l) (fun m => c m k) n := h1
      show x - c m k ≤ a i l + b l m
      omega
    omega
theorem mulF_unit {n : Nat} {a : MF} (ha : InR n a) {i k : Nat} (hi : i < n) (hk : k < n) : mulF n a unitF i k = a i k := by
  apply eq_of_le
  intro x
  unfold mulF
  rw [le_dot]
  constructor
  · rintro ⟨_, h⟩
    have h1 := h k hk
    simp only [unitF, if_pos] at h1
    omega
  · intro h
    refine ⟨by have := ha i k hi hk; omega, fun l hl => ?_⟩
    by_cases e : l = k
    · subst e; simp only [unitF, if_pos]; omega
    · simp only [unitF, if_neg e]; have := ha i k hi hk; have := ha i l hi hl; omega
theorem unit_mulF {n : Nat} {a : MF} (ha : InR n a) {i k : Nat} (hi : i < n) (hk : k < n) : mulF n unitF a i k = a i k := by
  apply eq_of_le
  intro x
  unfold mulF
  rw [le_dot]
  constructor
  · rintro ⟨_, h⟩
    have h1 := h i hi
    simp only [unitF, if_pos] at h1
    omega
  · intro h
    refine ⟨by have := ha i k hi hk; omega, fun l hl => ?_⟩
    by_cases e : i = l
    · subst e; simp only [unitF, if_pos]; omega
    · simp only [unitF, if_neg e]; have := ha i k hi hk; have := ha l k hl hk; omega
theorem mulF_turn (n : Nat) (a b : MF) (i k : Nat) : mulF n (turnF b) (turnF a) i k = turnF (mulF n a b) i k := by
  apply eq_of_le
  intro x
  unfold mulF turnF
  rw [le_dot, le_dot]
  constructor <;> (rintro ⟨hx, h⟩; exact ⟨hx, fun l hl => by rw [Int.add_comm]; exact h l hl⟩)
theorem mulF_min {n : Nat} (a b c : MF) (i k : Nat) : mulF n (minF a b) c i k = minF (mulF n a c) (mulF n b c) i k := by
  apply eq_of_le
  intro x
  have h1 := le_dot (a i) (fun l => c l k) x n
  have h2 := le_dot (b i) (fun l => c l k) x n
  show x ≤ dot (fun l => min (a i l) (b i l)) (fun l => c l k) n ↔ x ≤ min (dot (a i) (fun l => c l k) n) (dot (b i) (fun l => c l k) n)
  rw [le_dot]
  constructor
  · rintro ⟨hx, h⟩
    have := h1.2 ⟨hx, fun l hl => by have h' : x ≤ min (a i l) (b i l) + c l k := h l hl
                                     show x ≤ a i l + c l k
                                     omega⟩
    have := h2.2 ⟨hx, fun l hl => by have h' : x ≤ min (a i l) (b i l) + c l k := h l hl
                                     show x ≤ b i l + c l k
                                     omega⟩
    omega
  · intro h
    have g1 := h1.1 (by omega)
    have g2 := h2.1 (by omega)
    exact ⟨g1.1, fun l hl => by have h' : x ≤ a i l + c l k := g1.2 l hl
                                have h'' : x ≤ b i l + c l k := g2.2 l hl
                                show x ≤ min (a i l) (b i l) + c l k
                                omega⟩

/-! Row by row as a list. -/
def cel (n : Nat) (zs : List Int) : MF := fun i k => zs.getD (i * n + k) 0
def ofF (n : Nat) (f : MF) : List Int := (List.range (n * n)).map fun p => f (p / n) (p % n)
theorem ofF_len (n : Nat) (f : MF) : (ofF n f).length = n * n := by simp [ofF]
theorem at_lt {n i k : Nat} (hi : i < n) (hk : k < n) : i * n + k < n * n := by
  have : (i + 1) * n ≤ n * n := Nat.mul_le_mul_right n hi
  rw [Nat.succ_mul] at this; omega
theorem at_div {n i k : Nat} (hk : k < n) : (i * n + k) / n = i := by
  rw [Nat.mul_comm, Nat.mul_add_div (by omega), Nat.div_eq_of_lt hk, Nat.add_zero]
theorem at_mod {n i k : Nat} (hk : k < n) : (i * n + k) % n = k := by
  rw [Nat.mul_comm, Nat.mul_add_mod, Nat.mod_eq_of_lt hk]
theorem ofF_getD {n : Nat} (f : MF) {p : Nat} (hp : p < n * n) : (ofF n f).getD p 0 = f (p / n) (p % n) := by
  rw [List.getD_eq_getElem?_getD, List.getElem?_eq_getElem (by rw [ofF_len]; exact hp)]
  simp [ofF]
theorem cel_ofF {n : Nat} (f : MF) {i k : Nat} (hi : i < n) (hk : k < n) : cel n (ofF n f) i k = f i k := by
  unfold cel
  rw [ofF_getD f (at_lt hi hk), at_div hk, at_mod hk]
theorem div_lt_ {n p : Nat} (hp : p < n * n) : p / n < n := Nat.div_lt_of_lt_mul hp
theorem mod_lt_ {n p : Nat} (hp : p < n * n) : p % n < n := by
  rcases Nat.eq_zero_or_pos n with h | h
  · subst h; simp at hp
  · exact Nat.mod_lt _ h
theorem ofF_congr {n : Nat} {f g : MF} (h : ∀ i k, i < n → k < n → f i k = g i k) : ofF n f = ofF n g := by
  unfold ofF
  apply List.map_congr_left
  intro p hp
  have hp' := List.mem_range.1 hp
  exact h _ _ (div_lt_ hp') (mod_lt_ hp')
theorem ofF_cel {n : Nat} {zs : List Int} (h : zs.length = n * n) : ofF n (cel n zs) = zs := by
  apply List.ext_getElem
  · rw [ofF_len, h]
  · intro p h1 h2
    rw [ofF_len] at h1
    have e := ofF_getD (cel n zs) h1
    rw [List.getD_eq_getElem?_getD, List.getElem?_eq_getElem (by rw [ofF_len]; exact h1)] at e
    simp only [Option.getD_some] at e
    rw [e]
    unfold cel
    rw [Nat.mul_comm, Nat.div_add_mod, List.getD_eq_getElem?_getD, List.getElem?_eq_getElem h2]
    rfl
theorem ofF_all {n : Nat} {f : MF} (h : InR n f) : allV (ofF n f) = true := by
  apply List.all_eq_true.2
  intro z hz
  obtain ⟨p, hp, rfl⟩ := List.mem_map.1 hz
  have hp' := List.mem_range.1 hp
  exact vld_yes (h _ _ (div_lt_ hp') (mod_lt_ hp'))
theorem cel_in {n : Nat} {zs : List Int} (hl : zs.length = n * n) (hv : allV zs = true) : InR n (cel n zs) := fun i k hi hk => by
  have hp := at_lt hi hk
  unfold cel
  rw [List.getD_eq_getElem?_getD, List.getElem?_eq_getElem (by rw [hl]; exact hp)]
  exact vld_t (List.all_eq_true.1 hv _ (List.getElem_mem _))

/-- A valid matrix. -/
structure MV (n : Nat) (zs : List Int) : Prop where
  lo : 1 ≤ n
  hi : n ≤ 4
  len : zs.length = n * n
  all : allV zs = true
theorem MV.sq {n : Nat} {zs : List Int} (h : MV n zs) : n * n ≤ 16 := by
  have := h.hi
  calc n * n ≤ 4 * 4 := Nat.mul_le_mul this this
    _ = 16 := rfl
theorem MV.few {n : Nat} {zs : List Int} (h : MV n zs) : zs.length ≤ 16 := by rw [h.len]; exact h.sq
theorem MV.in_ {n : Nat} {zs : List Int} (h : MV n zs) : InR n (cel n zs) := cel_in h.len h.all
theorem MV.of_ {n : Nat} {f : MF} (h1 : 1 ≤ n) (h2 : n ≤ 4) (h : InR n f) : MV n (ofF n f) := ⟨h1, h2, ofF_len n f, ofF_all h⟩
def matOk (m : Int) (zs : List Int) : Bool := decide (1 ≤ m ∧ m ≤ 4) && (decide ((zs.length : Int) = m * m) && allV zs)
theorem matOk_t {m : Int} {zs : List Int} (h : matOk m zs = true) : ∃ n : Nat, m = (n : Int) ∧ MV n zs := by
  simp only [matOk, Bool.and_eq_true, decide_eq_true_eq] at h
  obtain ⟨⟨h1, h2⟩, h3, h4⟩ := h
  refine ⟨m.toNat, by omega, by omega, by omega, ?_, h4⟩
  have e : m = ((m.toNat : Nat) : Int) := by omega
  rw [e, ← Int.natCast_mul] at h3
  exact Int.ofNat.inj h3
theorem matOk_mk {n : Nat} {zs : List Int} (h : MV n zs) : matOk n zs = true := by
  simp only [matOk, Bool.and_eq_true, decide_eq_true_eq]
  refine ⟨⟨by have := h.lo; omega, by have := h.hi; omega⟩, ?_, h.all⟩
  rw [h.len, Int.natCast_mul]
theorem matOk_size {m : Int} {zs : List Int} (h : ¬ (1 ≤ m ∧ m ≤ 4)) : matOk m zs = false := by simp [matOk, h]
theorem matOk_len {m : Int} {zs : List Int} (h : ¬ (zs.length : Int) = m * m) : matOk m zs = false := by simp [matOk, h]
theorem matOk_cells {m : Int} {zs : List Int} (h : allV zs = false) : matOk m zs = false := by simp [matOk, h]
theorem matOk_all {m : Int} {zs : List Int} (h1 : 1 ≤ m ∧ m ≤ 4) (h2 : (zs.length : Int) = m * m) : matOk m zs = allV zs := by simp [matOk, h1, h2]

def mulL (n : Nat) (a b : List Int) : List Int := ofF n (mulF n (cel n a) (cel n b))
def minL (n : Nat) (a b : List Int) : List Int := ofF n (minF (cel n a) (cel n b))
def turnL (n : Nat) (a : List Int) : List Int := ofF n (turnF (cel n a))
def unitL (n : Nat) : List Int := ofF n unitF
theorem mulL_ok {n : Nat} {a b : List Int} (ha : MV n a) (hb : MV n b) : MV n (mulL n a b) := MV.of_ ha.lo ha.hi (mulF_in ha.in_ hb.in_)
theorem minL_ok {n : Nat} {a b : List Int} (ha : MV n a) (hb : MV n b) : MV n (minL n a b) := MV.of_ ha.lo ha.hi (minF_in ha.in_ hb.in_)
theorem turnL_ok {n : Nat} {a : List Int} (ha : MV n a) : MV n (turnL n a) := MV.of_ ha.lo ha.hi (turnF_in ha.in_)
theorem unitL_ok {n : Nat} (h1 : 1 ≤ n) (h2 : n ≤ 4) : MV n (unitL n) := MV.of_ h1 h2 (unitF_in n)
theorem mulF_cel {n : Nat} {a b : MF} {a' b' : MF} (ha : ∀ i k, i < n → k < n → a i k = a' i k) (hb : ∀ i k, i < n → k < n → b i k = b' i k) {i k : Nat} (hi : i < n) (hk : k < n) : mulF n a b i k = mulF n a' b' i k :=
  dot_congr (fun l hl => ha i l hi hl) (fun l hl => hb l k hl hk)
theorem mulL_assoc {n : Nat} {a b c : List Int} (ha : MV n a) (hb : MV n b) (hc : MV n c) : mulL n (mulL n a b) c = mulL n a (mulL n b c) :=
  ofF_congr fun i k hi hk => by
    refine (mulF_cel (a' := mulF n (cel n a) (cel n b)) (b' := cel n c) (fun i k hi hk => cel_ofF _ hi hk) (fun _ _ _ _ => rfl) hi hk).trans ?_
    rw [mulF_assoc ha.in_ hb.in_ hc.in_ hi hk]
    exact (mulF_cel (a' := cel n a) (b' := mulF n (cel n b) (cel n c)) (fun _ _ _ _ => rfl) (fun i k hi hk => cel_ofF _ hi hk) hi hk).symm
theorem mulL_unit {n : Nat} {a : List Int} (ha : MV n a) : mulL n a (unitL n) = a :=
  (ofF_congr fun i k hi hk => (mulF_cel (a' := cel n a) (b' := unitF) (fun _ _ _ _ => rfl) (fun i k hi hk => cel_ofF _ hi hk) hi hk).trans (mulF_unit ha.in_ hi hk)).trans (ofF_cel ha.len)
theorem unit_mulL {n : Nat} {a : List Int} (ha : MV n a) : mulL n (unitL n) a = a :=
  (ofF_congr fun i k hi hk => (mulF_cel (a' := unitF) (b' := cel n a) (fun i k hi hk => cel_ofF _ hi hk) (fun _ _ _ _ => rfl) hi hk).trans (unit_mulF ha.in_ hi hk)).trans (ofF_cel ha.len)
theorem mulL_turn {n : Nat} (a b : List Int) : mulL n (turnL n b) (turnL n a) = turnL n (mulL n a b) :=
  ofF_congr fun i k hi hk => by
    refine (mulF_cel (a' := turnF (cel n b)) (b' := turnF (cel n a)) (fun i k hi hk => cel_ofF _ hi hk) (fun i k hi hk => cel_ofF _ hi hk) hi hk).trans ?_
    rw [mulF_turn]
    exact (cel_ofF _ hk hi).symm
theorem mulL_min {n : Nat} (a b c : List Int) : mulL n (minL n a b) c = minL n (mulL n a c) (mulL n b c) :=
  ofF_congr fun i k hi hk => by
    refine (mulF_cel (a' := minF (cel n a) (cel n b)) (b' := cel n c) (fun i k hi hk => cel_ofF _ hi hk) (fun _ _ _ _ => rfl) hi hk).trans ?_
    rw [mulF_min]
    show min _ _ = min _ _
    rw [← cel_ofF (mulF n (cel n a) (cel n c)) hi hk, ← cel_ofF (mulF n (cel n b) (cel n c)) hi hk]
    rfl
theorem minL_comm {n : Nat} (a b : List Int) : minL n b a = minL n a b := ofF_congr fun i k _ _ => by show min _ _ = min _ _; omega
theorem minL_twice {n : Nat} (a b : List Int) : minL n (minL n a b) a = minL n a b :=
  ofF_congr fun i k hi hk => by
    show min (cel n (ofF n _) i k) _ = min _ _
    rw [cel_ofF _ hi hk]; show min (min _ _) _ = _; omega
theorem turnL_twice {n : Nat} {a : List Int} (h : a.length = n * n) : turnL n (turnL n a) = a := by
  have : turnL n (turnL n a) = ofF n (cel n a) := ofF_congr fun i k hi hk => cel_ofF _ hk hi
  rw [this, ofF_cel h]

end Go.Proofs.YtfdbbopanankgaaDoor
