/- Steps in the order of their moves, plain: what the comparison of two steps tells, when two ordered lists are one, what a sort leaves. No condition but that states are below four and letters are letters. -/
import Derived.Test.YtdfnlaclggjckaaWordT
import Derived.Test.YtdfnlaclggjckaaMarkB
import Derived.Shelf.SlSortCmp.WholeK
import Derived.Shelf.SlSortCmp.NoneTotal
namespace Go.Proofs.Ytdfnlaclggjckaa
open Go.RowKit Go.Shelf Go.Sort
set_option maxHeartbeats 1000000
set_option maxRecDepth 100000
set_option linter.unusedVariables false

/-- A step whose states and letter fit; its cost may be anything. -/
def mvOk (s : StepD) : Prop := 0 ≤ s.fr ∧ s.fr < 4 ∧ 0 ≤ s.to_ ∧ s.to_ < 4 ∧ IsL s.le
theorem mvOk_of {n : Nat} {s : StepD} (n4 : n ≤ 4) (h : stepOk n s = true) : mvOk s := by
  obtain ⟨i, k, c, h1, h2, h3, h4, _, _, h7⟩ := stepOk_in h
  exact ⟨by omega, by omega, by omega, by omega, h7⟩
theorem cmp_code {s t : StepD} (hs : mvOk s) (ht : mvOk t) : cmpS s t < 0 ↔ code s < code t := by
  obtain ⟨a1, a2, a3, a4, a5⟩ := hs
  obtain ⟨b1, b2, b3, b4, b5⟩ := ht
  have c1 : Lib.compareBytes [97] [97] = 0 := by decide
  have c2 : Lib.compareBytes [97] [98] = -1 := by decide
  have c3 : Lib.compareBytes [98] [97] = 1 := by decide
  have c4 : Lib.compareBytes [98] [98] = 0 := by decide
  unfold cmpS code cmpI
  rcases a5 with e | e <;> rcases b5 with f | f <;> rw [e, f] <;> simp [orF, c1, c2, c3, c4] <;> (repeat' split) <;> omega
theorem code_ext : ∀ (us vs : List StepD), us.Pairwise (fun s t => code s < code t) → vs.Pairwise (fun s t => code s < code t) → (∀ s, s ∈ us ↔ s ∈ vs) → us = vs
  | [], [], _, _, _ => rfl
  | [], v :: vs, _, _, h => absurd ((h v).2 (by simp)) (by simp)
  | u :: us, [], _, _, h => absurd ((h u).1 (by simp)) (by simp)
  | u :: us, v :: vs, hu, hv, h => by
    rw [List.pairwise_cons] at hu hv
    have e : u = v := by
      rcases List.mem_cons.1 ((h u).1 (by simp)) with e | e
      · exact e
      · rcases List.mem_cons.1 ((h v).2 (by simp)) with f | f
        · exact f.symm
        · have h1 := hv.1 u e
          have h2 := hu.1 v f
          omega
    subst e
    rw [code_ext us vs hu.2 hv.2 (fun s => ⟨fun hs => by
      rcases List.mem_cons.1 ((h s).1 (List.mem_cons_of_mem _ hs)) with e | e
      · subst e; have := hu.1 s hs; omega
      · exact e, fun hs => by
      rcases List.mem_cons.1 ((h s).2 (List.mem_cons_of_mem _ hs)) with e | e
      · subst e; have := hv.1 s hs; omega
      · exact e⟩)]

abbrev MS := {s : StepD // mvOk s}
instance : Inhabited MS := ⟨⟨⟨0, ⟨#[97]⟩, 0, 0⟩, by decide, by decide, by decide, by decide, Or.inl rfl⟩⟩
def encM (x : MS) : List Value := stepC x.1
def cmpM (x y : MS) : Int := cmpS x.1 y.1
theorem ltM (x y : MS) : ltOf cmpM x y = decide (code x.1 < code y.1) := decide_eq_decide.2 (cmp_code x.2 y.2)
theorem swoM : SWO (ltOf cmpM) where
  irrefl x := by rw [ltM]; simp
  trans x y z h1 h2 := by rw [ltM] at *; simp at *; omega
  ntrans x y z h1 h2 := by rw [ltM] at *; simp at *; omega
theorem encM_len (x : MS) : (encM x).length = 4 := rfl
theorem encM_one (x : MS) : ∀ v ∈ encM x, v.oneCell' = true := fun v hv => by
  simp [encM, stepC] at hv
  rcases hv with rfl | rfl | rfl | rfl <;> rfl
theorem flatK_S (d : Array MS) : flatK encM 4 d = (flatS (d.toList.map (·.1))).toArray := by
  refine ext_get! (by simp [flatS_len]) (fun t ht => ?_)
  have ht' : t < d.size * 4 := by simpa using ht
  have h4 : t / 4 < d.size := by omega
  have hk : t / 4 < (d.toList.map (·.1)).length := by simpa using h4
  obtain ⟨h0, h1, h2, h3⟩ := flatS_get (d.toList.map (·.1)) (t / 4) hk
  have e : (d.toList.map (·.1)).getD (t / 4) default = (d[t / 4]!).1 := by
    rw [List.getD_eq_getElem?_getD, List.getElem?_eq_getElem hk, getElem!_pos d _ h4]; simp
  rw [e] at h0 h1 h2 h3
  rw [get_flatK _ _ _ _ ht']
  have hc : t % 4 = 0 ∨ t % 4 = 1 ∨ t % 4 = 2 ∨ t % 4 = 3 := by omega
  have hg : ∀ v, (flatS (d.toList.map (·.1)))[t]? = some v → (flatS (d.toList.map (·.1))).toArray[t]! = v := fun v hv => by
    rw [Array.getElem!_eq_getD, Array.getD_eq_getD_getElem?, List.getElem?_toArray, hv]; rfl
  rcases hc with c | c | c | c
  · rw [hg _ (by rw [← h0]; congr 1; omega), c]; rfl
  · rw [hg _ (by rw [← h1]; congr 1; omega), c]; rfl
  · rw [hg _ (by rw [← h2]; congr 1; omega), c]; rfl
  · rw [hg _ (by rw [← h3]; congr 1; omega), c]; rfl
theorem sorted_M (d d' : Array MS) (hp : PermIn 0 d.size d d') (hs : SortedIn (ltOf cmpM) 0 d.size d') (hd : d.toList.Pairwise (fun x y => ¬ code x.1 = code y.1)) :
    d'.toList.Perm d.toList ∧ d'.toList.Pairwise (fun x y => code x.1 < code y.1) := by
  obtain ⟨h1, _, h3⟩ := hp
  have hpm : d'.toList.Perm d.toList := by
    rw [show d.size = d'.size from h1.symm] at h3
    have e1 : d'.extract 0 d'.size = d' := by simp
    have e2 : d.extract 0 d'.size = d := by rw [h1]; simp
    rwa [e1, e2] at h3
  refine ⟨hpm, ?_⟩
  have hne : d'.toList.Pairwise (fun x y => ¬ code x.1 = code y.1) := (hpm.pairwise_iff (fun {x y} h e => h e.symm)).2 hd
  rw [List.pairwise_iff_getElem] at hne ⊢
  intro i j hi hj hij
  have hi' : i < d'.size := by simpa using hi
  have hj' : j < d'.size := by simpa using hj
  have h := hs i j (Nat.zero_le _) hij (by omega)
  rw [ltM, getElem!_pos d' _ hj', getElem!_pos d' _ hi'] at h
  have h2 := hne i j hi hj hij
  simp only [Array.getElem_toList] at h2 ⊢
  simp at h
  omega
/-- Some steps with pairwise different moves, as the sort takes them. -/
theorem lift_M : ∀ (us : List StepD), (∀ s ∈ us, mvOk s) → ∃ ms : List MS, ms.map (·.1) = us
  | [], _ => ⟨[], rfl⟩
  | u :: us, h => by
    obtain ⟨ms, hm⟩ := lift_M us (fun s hs => h s (List.mem_cons_of_mem _ hs))
    exact ⟨⟨u, h u (by simp)⟩ :: ms, by simp [hm]⟩

theorem code_inj {s t : StepD} (hs : mvOk s) (ht : mvOk t) (h : code s = code t) : s.fr = t.fr ∧ s.le = t.le ∧ s.to_ = t.to_ := by
  obtain ⟨a1, a2, a3, a4, a5⟩ := hs
  obtain ⟨b1, b2, b3, b4, b5⟩ := ht
  unfold code at h
  rcases a5 with e | e <;> rcases b5 with f | f <;> rw [e, f] at h ⊢ <;> simp at h ⊢ <;> omega
theorem kwf_mv {s : StepD} (h : mvOk s) : kwf s.fr s.le s.to_ := by
  obtain ⟨a1, a2, a3, a4, a5⟩ := h
  refine ⟨wf_between a1 (by omega), ?_, wf_between a3 (by omega)⟩
  rcases a5 with e | e <;> rw [e] <;> decide
theorem mv_eta {f t c : Int} {l : ByteArray} (s : StepD) (h1 : s.fr = f) (h2 : s.le = l) (h3 : s.to_ = t) (h4 : s.co = c) : s = ⟨f, l, t, c⟩ := by
  cases s; simp at h1 h2 h3 h4; rw [h1, h2, h3, h4]

/-- What is collected of a map's entries, when those of `left` are still to come. -/
def SetP (F : Int → ByteArray → Int → Option Int) (left : Int → ByteArray → Int → Bool) (us : List StepD) : Prop :=
  (∀ s, s ∈ us ↔ mvOk s ∧ F s.fr s.le s.to_ = some s.co ∧ left s.fr s.le s.to_ = false) ∧ us.Pairwise (fun x y => ¬ code x = code y)
theorem setP_start (F : Int → ByteArray → Int → Option Int) : SetP F (fun f l t => (F f l t).isSome) [] :=
  ⟨fun s => ⟨fun h => (by cases h), fun ⟨_, h1, h2⟩ => by simp [h1] at h2⟩, List.Pairwise.nil⟩
theorem setP_take {F : Int → ByteArray → Int → Option Int} {left : Int → ByteArray → Int → Bool} {us : List StepD} {f t c : Int} {l : ByteArray} (h : SetP F left us) (hF : F f l t = some c) (hl : left f l t = true) (hm : mvOk ⟨f, l, t, c⟩) :
    SetP F (strike left f l t) (us ++ [⟨f, l, t, c⟩]) := by
  obtain ⟨h1, h2⟩ := h
  refine ⟨fun s => ?_, ?_⟩
  · unfold strike
    rw [List.mem_append, h1 s, List.mem_singleton]
    constructor
    · rintro (⟨a, b, d⟩ | rfl)
      · exact ⟨a, b, by rw [d]; rfl⟩
      · exact ⟨hm, hF, by simp⟩
    · rintro ⟨a, b, d⟩
      by_cases e : s.fr = f ∧ s.le.data = l.data ∧ s.to_ = t
      · obtain ⟨e1, e2, e3⟩ := e
        have e2' : s.le = l := by cases hs : s.le; cases l; rw [hs] at e2; simp at e2; rw [e2]
        rw [e1, e2', e3, hF] at b
        exact Or.inr (mv_eta s e1 e2' e3 (by simpa using b.symm))
      · rw [decide_eq_false e] at d
        exact Or.inl ⟨a, b, by simpa using d⟩
  · rw [List.pairwise_append]
    refine ⟨h2, List.pairwise_singleton _ _, fun x hx y hy e => ?_⟩
    rw [List.mem_singleton] at hy
    subst hy
    obtain ⟨a, b, d⟩ := (h1 x).1 hx
    obtain ⟨e1, e2, e3⟩ := code_inj a hm e
    simp at e1 e2 e3
    rw [e1, e2, e3, hl] at d
    cases d
theorem setP_done {F : Int → ByteArray → Int → Option Int} {left : Int → ByteArray → Int → Bool} {us : List StepD} (h : SetP F left us) (h0 : ∀ f l t, kwf f l t → left f l t = false) : ∀ s, s ∈ us ↔ mvOk s ∧ F s.fr s.le s.to_ = some s.co := fun s => by
  rw [h.1 s]
  exact ⟨fun ⟨a, b, _⟩ => ⟨a, b⟩, fun ⟨a, b⟩ => ⟨a, b, h0 _ _ _ (kwf_mv a)⟩⟩
end Go.Proofs.Ytdfnlaclggjckaa
