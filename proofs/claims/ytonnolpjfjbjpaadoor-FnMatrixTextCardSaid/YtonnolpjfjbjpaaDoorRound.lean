/- Plain mathematics of texts of costs: what is written is read again, and what is read is written again; no condition. -/
import Derived.Test.YtonnolpjfjbjpaaDoorFmts
import Derived.Test.YtonnolpjfjbjpaaDoorParses
namespace Go.Proofs.YtonnolpjfjbjpaaDoor
open Go.RowKit
set_option linter.unusedVariables false

theorem dig_val {m : Nat} (h : m < 10) : ((48 + UInt8.ofNat m).toNat : Int) = 48 + (m : Int) := by
  have : (48 + UInt8.ofNat m).toNat = 48 + m := by
    rw [UInt8.toNat_add]
    have e1 : (48 : UInt8).toNat = 48 := rfl
    have e2 : (UInt8.ofNat m).toNat = m := by rw [UInt8.toNat_ofNat']; omega
    rw [e1, e2]; omega
  omega
theorem dig_is {m : Nat} (h : m < 10) : isDig (48 + UInt8.ofNat m) = true := isDig_yes (by rw [dig_val h]; omega) (by rw [dig_val h]; omega)
theorem readLoop_append (l m : List UInt8) : ∀ acc, readLoop acc (l ++ m) = (readLoop acc l).bind fun c => readLoop c m := by
  induction l with
  | nil => intro acc; rfl
  | cons b r ih =>
    intro acc
    rw [List.cons_append]
    rcases isDig_cases b with hb | hb
    · by_cases hbig : 1000000 ≤ acc * 10 + ((b.toNat : Int) - 48)
      · rw [readLoop_big hb hbig, readLoop_big hb hbig]; rfl
      · rw [readLoop_on hb hbig, readLoop_on hb hbig, ih]
    · rw [readLoop_bad hb, readLoop_bad hb]; rfl
theorem readLoop_one {acc : Int} {m : Nat} (h : m < 10) (h' : acc * 10 + (m : Int) < 1000000) : readLoop acc [48 + UInt8.ofNat m] = some (acc * 10 + (m : Int)) := by
  rw [readLoop_on (dig_is h) (by rw [dig_val h]; omega), dig_val h]
  simp [readLoop]; omega
theorem readLoop_dec (k : Nat) : k < 1000000 → readLoop 0 (Lib.decDigits k) = some (k : Int) := by
  induction k using Nat.strongRecOn with
  | ind k ih =>
    intro hk
    by_cases h : 9 < k
    · rw [dec_big h, readLoop_append, ih (k / 10) (by omega) (by omega), Option.bind_some, readLoop_one (by omega) (by omega)]
      congr 1; omega
    · rw [dec_small h, readLoop_one (by omega) (by omega)]
      congr 1; omega
theorem dec_head (k : Nat) : 1 ≤ k → ∃ d r, Lib.decDigits k = d :: r ∧ ¬ d = 48 := by
  induction k using Nat.strongRecOn with
  | ind k ih =>
    intro hk
    by_cases h : 9 < k
    · obtain ⟨d, r, e, hd⟩ := ih (k / 10) (by omega) (by omega)
      exact ⟨d, _, by rw [dec_big h, e]; rfl, hd⟩
    · refine ⟨_, [], dec_small h, fun he => ?_⟩
      have := congrArg (fun u : UInt8 => (u.toNat : Int)) he
      simp only [dig_val (show k < 10 by omega)] at this
      have e2 : ((48 : UInt8).toNat : Int) = 48 := rfl
      omega
theorem dec_digs (k : Nat) : ∀ b ∈ Lib.decDigits k, isDig b = true := by
  induction k using Nat.strongRecOn with
  | ind k ih =>
    intro b hb
    by_cases h : 9 < k
    · rw [dec_big h] at hb
      rcases List.mem_append.1 hb with hb | hb
      · exact ih (k / 10) (by omega) b hb
      · rw [List.mem_singleton.1 hb]; exact dig_is (by omega)
    · rw [dec_small h] at hb
      rw [List.mem_singleton.1 hb]; exact dig_is (by omega)

theorem read_fmt {a : Int} (hv : vld a = true) : readF (fmtF a) = some a := by
  obtain ⟨a0, a1⟩ := vld_t hv
  by_cases hn : a = 1000000
  · subst hn; rfl
  · obtain ⟨k, rfl⟩ := Int.eq_ofNat_of_zero_le a0
    have hk : k < 1000000 := by omega
    rw [fmtF_some hk]
    unfold readF
    have h45 : ¬ Lib.decDigits k = [45] := by
      intro he
      have := dec_digs k 45 (by rw [he]; simp)
      exact absurd this (by decide)
    rw [if_neg h45, if_neg (nd_ne k), if_neg, readLoop_dec k hk]
    rintro ⟨hl, hh⟩
    by_cases h0 : k = 0
    · subst h0; rw [dec_small (by omega)] at hl; simp at hl
    · obtain ⟨d, r, e, hd⟩ := dec_head k (by omega)
      rw [e] at hh; simp at hh; exact hd hh

theorem readLoop_lt (p : List UInt8) : ∀ acc v, 0 ≤ acc → acc < 1000000 → readLoop acc p = some v → acc ≤ v ∧ v < 1000000 := by
  induction p with
  | nil => intro acc v h0 h1 h; simp [readLoop] at h; omega
  | cons b r ih =>
    intro acc v h0 h1 h
    rcases isDig_cases b with hb | hb
    · have hd := isDig_in hb
      by_cases hbig : 1000000 ≤ acc * 10 + ((b.toNat : Int) - 48)
      · rw [readLoop_big hb hbig] at h; cases h
      · rw [readLoop_on hb hbig] at h
        have := ih _ _ (by omega) (by omega) h
        omega
    · rw [readLoop_bad hb] at h; cases h
theorem byte_dig {b : UInt8} (hb : isDig b = true) : 48 + UInt8.ofNat (b.toNat - 48) = b := by
  have := isDig_in hb
  apply byte_eq
  rw [dig_val (by omega)]; omega
theorem dec_read (p : List UInt8) : ∀ (acc : Nat) (v : Int), 1 ≤ acc → acc < 1000000 → readLoop (acc : Int) p = some v → Lib.decDigits v.toNat = Lib.decDigits acc ++ p := by
  induction p with
  | nil => intro acc v h0 h1 h; simp [readLoop] at h; subst h; simp
  | cons b r ih =>
    intro acc v h0 h1 h
    rcases isDig_cases b with hb | hb
    · have hd := isDig_in hb
      by_cases hbig : 1000000 ≤ (acc : Int) * 10 + ((b.toNat : Int) - 48)
      · rw [readLoop_big hb hbig] at h; cases h
      · rw [readLoop_on hb hbig] at h
        have e : ((acc : Int) * 10 + ((b.toNat : Int) - 48)) = ((acc * 10 + (b.toNat - 48) : Nat) : Int) := by omega
        rw [e] at h
        rw [ih _ v (by omega) (by omega) h, dec_big (by omega)]
        have e1 : (acc * 10 + (b.toNat - 48)) / 10 = acc := by omega
        have e2 : (acc * 10 + (b.toNat - 48)) % 10 = b.toNat - 48 := by omega
        rw [e1, e2, byte_dig hb]
        simp
    · rw [readLoop_bad hb] at h; cases h
theorem fmt_read {p : List UInt8} {v : Int} (h : readF p = some v) : vld v = true ∧ fmtF v = p := by
  unfold readF at h
  by_cases h1 : p = [45]
  · rw [if_pos h1] at h; cases h; exact ⟨by decide, by rw [h1]; rfl⟩
  · rw [if_neg h1] at h
    by_cases h2 : p = []
    · rw [if_pos h2] at h; cases h
    · rw [if_neg h2] at h
      by_cases h3 : 1 < p.length ∧ p.head? = some 48
      · rw [if_pos h3] at h; cases h
      · rw [if_neg h3] at h
        obtain ⟨v0, v1⟩ := readLoop_lt p 0 v (by omega) (by omega) h
        refine ⟨vld_yes (by omega), ?_⟩
        obtain ⟨k, rfl⟩ := Int.eq_ofNat_of_zero_le v0
        rw [fmtF_some (by omega)]
        cases p with
        | nil => exact absurd rfl h2
        | cons b r =>
          rcases isDig_cases b with hb | hb
          · have hd := isDig_in hb
            rw [readLoop_on hb (by omega)] at h
            have e : ((0 : Int) * 10 + ((b.toNat : Int) - 48)) = ((b.toNat - 48 : Nat) : Int) := by omega
            rw [e] at h
            cases r with
            | nil =>
              simp [readLoop] at h
              have : k = b.toNat - 48 := by omega
              rw [this, dec_small (by omega), byte_dig hb]
            | cons c r =>
              have hb0 : ¬ b = 48 := by intro he; apply h3; exact ⟨by simp, by simp [he]⟩
              have := dig_pos hb hb0
              have h5 := dec_read (c :: r) (b.toNat - 48) (k : Int) (by omega) (by omega) h
              rw [Int.toNat_natCast] at h5
              rw [h5, dec_small (by omega), byte_dig hb]
              rfl
          · rw [readLoop_bad hb] at h; cases h

/-! Lists. -/
theorem cut_none {c : UInt8} : ∀ (x : List UInt8), (∀ b ∈ x, ¬ b = c) → cutL c x = [x]
  | [], _ => rfl
  | b :: x, h => by rw [cut_miss _ (h b (by simp)), cut_none x (fun b' hb => h b' (by simp [hb]))]; rfl
theorem cut_at {c : UInt8} (rest : List UInt8) : ∀ (x : List UInt8), (∀ b ∈ x, ¬ b = c) → cutL c (x ++ c :: rest) = x :: cutL c rest
  | [], _ => by rw [List.nil_append, cut_hit _ rfl]
  | b :: x, h => by
    rw [List.cons_append, cut_miss _ (h b (by simp)), cut_at rest x (fun b' hb => h b' (by simp [hb]))]; rfl
theorem tail_cons (y : List UInt8) (r : List (List UInt8)) : Lib.joinTail [32] (y :: r) = 32 :: (y ++ Lib.joinTail [32] r) := by simp [Lib.joinTail]
theorem cut_join : ∀ (r : List (List UInt8)) (x : List UInt8), (∀ y ∈ x :: r, ∀ b ∈ y, ¬ b = 32) → cutL 32 (x ++ Lib.joinTail [32] r) = x :: r
  | [], x, h => by
    have e : Lib.joinTail [32] ([] : List (List UInt8)) = [] := rfl
    rw [e, List.append_nil]; exact cut_none x (h x (by simp))
  | y :: r, x, h => by
    rw [tail_cons, cut_at _ x (h x (by simp)), cut_join r y (fun z hz => h z (by simp at hz ⊢; exact Or.inr hz))]
theorem join_tail (y : List UInt8) (r : List (List UInt8)) : Lib.joinTail [32] (y :: r) = 32 :: Lib.join (y :: r) [32] := by rw [tail_cons, Lib.join_cons]
theorem join_cut : ∀ l : List UInt8, Lib.join (cutL 32 l) [32] = l
  | [] => by simp [cutL, Lib.join_one]
  | b :: l => by
    have ih := join_cut l
    cases hc : cutL 32 l with
    | nil => exact absurd hc (cutL_ne _ _)
    | cons p ps =>
      rw [hc] at ih
      by_cases h : b = 32
      · rw [cut_hit _ h, hc, Lib.join_cons, join_tail, ih, h]; rfl
      · rw [cut_miss _ h, hc]
        show Lib.join (([b] ++ p) :: ps) [32] = b :: l
        rw [Lib.join_cons, List.append_assoc, ← Lib.join_cons, ih]; rfl
theorem fmt_clean (a : Int) : ∀ b ∈ fmtF a, ¬ b = 32 := by
  intro b hb he
  subst he
  unfold fmtF at hb
  split at hb
  · split at hb
    · exact absurd hb (by decide)
    · exact absurd (dec_digs _ _ hb) (by decide)
  · cases hb
theorem pF_fmt : ∀ zs : List Int, allV zs = true → pF (zs.map fmtF) = some zs
  | [], _ => rfl
  | z :: zs, h => by
    have hz : vld z = true := by simp [allV] at h; exact h.1
    have hzs : allV zs = true := by simp [allV] at h ⊢; exact h.2
    rw [List.map_cons, pF_good _ (read_fmt hz), pF_fmt zs hzs]; rfl
theorem fmt_pF : ∀ (L : List (List UInt8)) (vs : List Int), pF L = some vs → vs.map fmtF = L ∧ allV vs = true
  | [], vs, h => by simp [pF] at h; subst h; exact ⟨rfl, rfl⟩
  | p :: ps, vs, h => by
    cases hr : readF p with
    | none => rw [pF_bad ps hr] at h; cases h
    | some v =>
      rw [pF_good ps hr] at h
      cases hp : pF ps with
      | none => rw [hp] at h; cases h
      | some us =>
        rw [hp] at h
        simp at h
        subst h
        obtain ⟨h1, h2⟩ := fmt_pF ps us hp
        obtain ⟨h3, h4⟩ := fmt_read hr
        exact ⟨by rw [List.map_cons, h1, h4], by rw [allV_t h3]; exact h2⟩
theorem parses_costs {zs : List Int} (h : allV zs = true) : parsesF (costsF zs) = some zs := by
  rw [costsF_ok h]
  cases zs with
  | nil => rfl
  | cons z zs =>
    have hz : vld z = true := by simp [allV] at h; exact h.1
    rw [List.map_cons, Lib.join_cons]
    rw [parsesF_ne (by intro he; exact fmtF_ne hz (List.append_eq_nil_iff.1 he).1)]
    rw [cut_join _ _ (by intro y hy; rw [← List.map_cons] at hy; obtain ⟨a, _, rfl⟩ := List.mem_map.1 hy; exact fmt_clean a)]
    rw [← List.map_cons]
    exact pF_fmt _ h
theorem costs_parses {l : List UInt8} {vs : List Int} (h : parsesF l = some vs) : allV vs = true ∧ costsF vs = l := by
  by_cases hn : l = []
  · subst hn
    rw [parsesF_nil] at h
    cases h
    exact ⟨rfl, rfl⟩
  · rw [parsesF_ne hn] at h
    obtain ⟨h1, h2⟩ := fmt_pF _ _ h
    exact ⟨h2, by rw [costsF_ok h2, h1, join_cut]⟩

end Go.Proofs.YtonnolpjfjbjpaaDoor
