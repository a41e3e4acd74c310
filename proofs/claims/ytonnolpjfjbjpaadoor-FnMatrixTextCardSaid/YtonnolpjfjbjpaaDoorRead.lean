/- The reading of a cost's text: readCost returns the number, or panics; ParseCost returns the number and true, or 0 and false; nothing that was there changes. No condition. -/
import Derived.Test.YtonnolpjfjbjpaaDoorCostA
import Derived.Test.YtonnolpjfjbjpaaDoorDigits
import Derived.WalkLawsBesides
import Derived.Defers
import Derived.Recover
import Derived.Laws.RangeAny
namespace Go.Proofs.YtonnolpjfjbjpaaDoor
open Go.RowKit
set_option maxHeartbeats 400000
set_option linter.unusedVariables false

/-- How readCost ends. -/
def ReadEnd (r : Option Int) (w : World) (e : Ending) (w' : World) : Prop :=
  Below w.heap.size w w' ∧ ((∃ v, r = some v ∧ e = .returned (.int .i64 v)) ∨ (r = none ∧ ∃ v, e = .panicked [{ v := .iface 9 v, recovered := false }]))

theorem below_iter {B : Nat} {w : World} (hB : B ≤ w.heap.size) (s : ByteArray) (k : Nat) : Below B w (w.iter s k) := (Below.refl _ _).alloc hB _

theorem ReadEnd.bad {r : Option Int} {w w' : World} {v : Value} (h : r = none) (hb : Below w.heap.size w w') : ReadEnd r w (.panicked [{ v := .iface 9 v, recovered := false }]) w' := ⟨hb, .inr ⟨h, _, rfl⟩⟩
theorem ReadEnd.good {r : Option Int} {w w' : World} {v : Int} (h : r = some v) (hb : Below w.heap.size w w') : ReadEnd r w (.returned (.int .i64 v)) w' := ⟨hb, .inl ⟨_, h, rfl⟩⟩

theorem read_dash (s : ByteArray) (w : World) (h1 : (s.toList == [45]) = true) :
    Calls Tryd.prog 62 #[.string s] w fun e w' => ReadEnd (some 1000000) w e w' := by
  go_enter Tryd.func62, Tryd.ntmps62
  go_wp2
  go_ret
  exact ReadEnd.good rfl (Below.refl _ _)
theorem read_empty (s : ByteArray) (w : World) (h1 : (s.toList == [45]) = false) (h2 : s.toList.isEmpty = true) :
    Calls Tryd.prog 62 #[.string s] w fun e w' => ReadEnd none w e w' := by
  go_enter Tryd.func62, Tryd.ntmps62
  go_wp2
  exact ⟨rfl, ReadEnd.bad rfl (Below.refl _ _)⟩
theorem read_zero (s : ByteArray) (w : World) (hs : s.size ≤ 9223372036854775807) (h1 : (s.toList == [45]) = false) (h2 : s.toList.isEmpty = false) (h3 : 1 < s.size) (h4 : ((s[0].toNat : Int) == 48) = true) :
    Calls Tryd.prog 62 #[.string s] w fun e w' => ReadEnd none w e w' := by
  go_enter Tryd.func62, Tryd.ntmps62
  go_wp2
  exact ⟨rfl, ReadEnd.bad rfl (Below.refl _ _)⟩
theorem read_loop (s : ByteArray) (w : World) (hs : s.size ≤ 9223372036854775807) (h1 : (s.toList == [45]) = false) (h2 : s.toList.isEmpty = false) (h3 : s.size ≤ 1 ∨ ∃ h : 1 < s.size, ((s[0].toNat : Int) == 48) = false) :
    Calls Tryd.prog 62 #[.string s] w fun e w' => ReadEnd (readLoop 0 s.data.toList) w e w' := by
  rcases h3 with h3 | ⟨h3, h4⟩
  all_goals
    go_enter Tryd.func62, Tryd.ntmps62
    go_wp2
    go_loopw [3] (fun c wr => ∃ (k : Nat) (acc : Int), k ≤ s.size ∧ c = .int .i64 acc ∧ 0 ≤ acc ∧ acc < 1000000 ∧ readLoop 0 s.data.toList = readLoop acc (s.data.toList.drop k) ∧ wr = w.iter s k) (fun _ wr => s.size - wr.iterPos w.heap.size)
    case atStart => exact ⟨0, 0, Nat.zero_le _, rfl, by omega, by omega, rfl, rfl⟩
    case round =>
      obtain ⟨k, acc, hk, rfl, h0, h9, hr, rfl⟩ := hrel
      have HR := Lib.hid hr
      clear hr
      by_cases hlt : k < s.size
      · have HD := Lib.hid (drop_byte s k hlt)
        by_cases ha : s[k].toNat < 128
        · have hnext : ∀ ty, (Instr.next (.pointer (some ⟨w.heap.size, 0, none⟩)) true ty).run Tryd.prog (w.iter s k) = .ok (.tuple #[.bool true, .int .i64 k, .int .i32 (s[k].toNat : Int)]) (w.iter s (k + 1)) := fun ty => run_next_ascii w s k ty hlt ha
          have hb0 : (0 : Int) ≤ (s[k].toNat : Int) := by omega
          by_cases hlo : (s[k].toNat : Int) < 48
          · go_wp2
            exact ⟨rfl, ReadEnd.bad (by rw [HR.out, HD.out, readLoop_bad (isDig_low hlo)]) (below_iter (Nat.le_refl _) _ _)⟩
          · by_cases hhi : 57 < (s[k].toNat : Int)
            · go_wp2
              exact ⟨rfl, ReadEnd.bad (by rw [HR.out, HD.out, readLoop_bad (isDig_high hhi)]) (below_iter (Nat.le_refl _) _ _)⟩
            · have HG := Lib.hid (isDig_yes (b := s[k]) (by omega) (by omega))
              by_cases hbig : 1000000 ≤ acc * 10 + ((s[k].toNat : Int) - 48)
              · go_wp2
                exact ⟨rfl, ReadEnd.bad (by rw [HR.out, HD.out, readLoop_big HG.out hbig]) (below_iter (Nat.le_refl _) _ _)⟩
              · go_wp2
                go_roundw
                case rel => exact ⟨k + 1, _, by omega, rfl, by omega, by omega, by rw [HR.out, HD.out, readLoop_on HG.out hbig], rfl⟩
                case measure => simp [World.iterPos_iter]; omega
        · obtain ⟨d1, d2⟩ := decode_high s k hlt (by omega)
          have d3 := decode_le s k
          obtain ⟨r, hr⟩ : ∃ r : Nat, r = (Utf8.decode s k).1 := ⟨_, rfl⟩
          obtain ⟨p, hp⟩ : ∃ p : Nat, p = k + (Utf8.decode s k).2 := ⟨_, rfl⟩
          have hnext : ∀ ty, (Instr.next (.pointer (some ⟨w.heap.size, 0, none⟩)) true ty).run Tryd.prog (w.iter s k) = .ok (.tuple #[.bool true, .int .i64 k, .int .i32 (r : Int)]) (w.iter s p) := fun ty => by rw [hr, hp]; exact run_next_any w s k ty hlt
          rw [← hr] at d1 d3
          have d1' : 57 < (r : Int) := by omega
          have hlo : ¬ (r : Int) < 48 := by omega
          have hhi : 57 < (s[k].toNat : Int) := by omega
          clear hr hp d2
          go_wp2
          exact ⟨rfl, ReadEnd.bad (by rw [HR.out, HD.out, readLoop_bad (isDig_high hhi)]) (below_iter (Nat.le_refl _) _ _)⟩
      · have hnext : ∀ ty, (Instr.next (.pointer (some ⟨w.heap.size, 0, none⟩)) true ty).run Tryd.prog (w.iter s k) = .ok (.tuple #[.bool false]) (w.iter s k) := fun ty => run_next_end w s k ty hlt
        have HD := Lib.hid (drop_end s k hlt)
        go_wp2
        go_ret
        exact ReadEnd.good (by rw [HR.out, HD.out]; rfl) (below_iter (Nat.le_refl _) _ _)

theorem read_any (s : ByteArray) (w : World) (hs : s.size ≤ 9223372036854775807) :
    Calls Tryd.prog 62 #[.string s] w fun e w' => ReadEnd (readF s.data.toList) w e w' := by
  unfold readF
  have hsz : s.data.toList.length = s.size := by simp
  by_cases h1 : s.data.toList = [45]
  · rw [if_pos h1]
    exact read_dash s w (by rw [ByteArray.toList_eq, h1]; rfl)
  · have k1 : (s.toList == [45]) = false := by rw [ByteArray.toList_eq, beq_eq_false_iff_ne]; exact h1
    rw [if_neg h1]
    by_cases h2 : s.data.toList = []
    · rw [if_pos h2]
      exact read_empty s w k1 (by rw [ByteArray.toList_eq, h2]; rfl)
    · rw [if_neg h2]
      have k2 : s.toList.isEmpty = false := by rw [ByteArray.toList_eq]; simpa using h2
      by_cases h3 : 1 < s.size
      · have hh : s.data.toList.head? = some s[0] := by rw [List.head?_eq_getElem?, List.getElem?_eq_getElem (by omega)]; rfl
        by_cases h4 : s[0] = 48
        · rw [if_pos ⟨by omega, by rw [hh, h4]⟩]
          exact read_zero s w hs k1 k2 h3 (by rw [h4]; rfl)
        · rw [if_neg (by rw [hh]; simp [h4])]
          exact read_loop s w hs k1 k2 (.inr ⟨h3, by
            rw [beq_eq_false_iff_ne]
            intro he
            have h5 : s[0].toNat = 48 := by omega
            exact h4 (UInt8.toNat_inj.1 h5)⟩)
      · rw [if_neg (by omega)]
        exact read_loop s w hs k1 k2 (.inl (by omega))

/-! The deferred closure, and ParseCost. -/
theorem catch_panic (p q : Addr) (x : Int) (y : Bool) (u : TypeId) (pv : Value) (older : List PanicEntry) (w : World) (hpq : ¬ p = q) (hc : w.cell? p = some (.int .i64 x)) (hz : w.frozen? p = false) (hc' : w.cell? q = some (.bool y)) (hz' : w.frozen? q = false) :
    CallsD Tryd.prog 61 #[.pointer (some p), .pointer (some q)] (.panicking ({ v := .iface u pv, recovered := false } :: older)) w fun e u' w' =>
      e = .returned (.tuple #[]) ∧ u' = .panicking ({ v := .iface u pv, recovered := true } :: older) ∧ w' = (w.setCell p (.int .i64 0)).setCell q (.bool false) := by
  have hcq : (w.setCell p (.int .i64 0)).cell? q = some (.bool y) := by rw [World.cell?_setCell_other _ _ _ _ hpq]; exact hc'
  refine callsD_of_wpS Tryd.func61 rfl fun c₀ cs hu => ?_
  apply wpS_seq
  apply wpS_region
  simp [wpOpsS, go_sem, recoverD, hu, Tryd.ntmps61, Exit.thenS]
  refine wpS_cond (t := true) (by simp [Act.eval, Array.replicate]) ?_
  simp only [if_true]
  apply wpS_region
  simp [wpOpsS, go_sem, hc, hz, hcq, hz', bodyPostS, results, Tryd.results61]

theorem catch_idle (p q : Addr) (w : World) :
    CallsD Tryd.prog 61 #[.pointer (some p), .pointer (some q)] .returning w fun e u' w' => e = .returned (.tuple #[]) ∧ u' = .returning ∧ w' = w := by
  refine callsD_of_wpS Tryd.func61 rfl fun c₀ cs hu => ?_
  apply wpS_seq
  apply wpS_region
  simp [wpOpsS, go_sem, recoverD, hu, Tryd.ntmps61, Exit.thenS]
  refine wpS_cond (t := false) (by simp [Act.eval, Array.replicate]) ?_
  simp only [Bool.false_eq_true, if_false]
  refine wpS_of_wp (wp_skip ?_)
  cases c₀
  simp_all [bodyPostS, results, Tryd.results61]

theorem parse_good (s : ByteArray) (w : World) (hs : s.size ≤ 9223372036854775807) (v : Int) (hv : readF s.data.toList = some v) :
    Calls Tryd.prog 45 #[.string s] w fun e w' => e = .returned (.tuple #[.int .i64 v, .bool true]) ∧ Below w.heap.size w w' := by
  have HV := Lib.hid hv
  clear hv
  have hmf : ∀ (fn : Fn) (first cap : Array Value) (w : World), (Instr.makeFunc fn first cap).run Tryd.prog w = .ok (.func fn first cap) w := fun _ _ _ _ => rfl
  go_enter_defers Tryd.func45, Tryd.ntmps45
  go_wp2_with fail
  refine (read_any _ _ hs).mono ?_
  rintro e w1 ⟨hb, h | ⟨h, h'⟩⟩
  · obtain ⟨v', hv', rfl⟩ := h
    have e1 : v' = v := Option.some.inj (hv'.symm.trans HV.out)
    subst e1
    clear hv'
    have hs1 : w.heap.size + 2 ≤ w1.heap.size := by have := hb.size; simpa using this
    have c0 : w1.cell? ⟨w.heap.size, 0, none⟩ = some (.int .i64 0) := (hb.cell (p := ⟨w.heap.size, 0, none⟩) (by simp; omega)).trans (by simp [go_sem])
    have c1 : w1.cell? ⟨w.heap.size + 1, 0, none⟩ = some (.bool false) := (hb.cell (p := ⟨w.heap.size + 1, 0, none⟩) (by simp)).trans (by simp [go_sem])
    have f0 : w1.frozen? ⟨w.heap.size, 0, none⟩ = false := (hb.frozen (p := ⟨w.heap.size, 0, none⟩) (by simp; omega)).trans (by simp [go_sem])
    have f1 : w1.frozen? ⟨w.heap.size + 1, 0, none⟩ = false := (hb.frozen (p := ⟨w.heap.size + 1, 0, none⟩) (by simp)).trans (by simp [go_sem])
    have hbw : Below w.heap.size w w1 := (((Below.refl _ _).alloc (Nat.le_refl _) _).alloc (by simp) _).trans (hb.mono (by simp; omega))
    have HB := Lib.hid hbw
    clear hb hbw
    go_wp2
    refine leaves_cons (f := 61) (args := #[.pointer (some ⟨w.heap.size, 0, none⟩), .pointer (some ⟨w.heap.size + 1, 0, none⟩)]) (by simp) (by simp [go_sem]) ?_
    refine (catch_idle ⟨w.heap.size, 0, none⟩ ⟨w.heap.size + 1, 0, none⟩ _).mono ?_
    rintro e u' w'' ⟨rfl, rfl, rfl⟩
    have hB := (HB.out.setCell (p := ⟨w.heap.size, 0, none⟩) (Nat.le_refl _) (.int .i64 v')).setCell (p := ⟨w.heap.size + 1, 0, none⟩) (Nat.le_succ _) (.bool true)
    simp [Leaves, settle, results, Tryd.results45, go_sem, c0, c1]
    exact hB
  · rw [HV.out] at h; cases h

theorem parse_bad (s : ByteArray) (w : World) (hs : s.size ≤ 9223372036854775807) (hv : readF s.data.toList = none) :
    Calls Tryd.prog 45 #[.string s] w fun e w' => e = .returned (.tuple #[.int .i64 0, .bool false]) ∧ Below w.heap.size w w' := by
  have HV := Lib.hid hv
  clear hv
  have hmf : ∀ (fn : Fn) (first cap : Array Value) (w : World), (Instr.makeFunc fn first cap).run Tryd.prog w = .ok (.func fn first cap) w := fun _ _ _ _ => rfl
  go_enter_defers Tryd.func45, Tryd.ntmps45
  go_wp2_with fail
  refine (read_any _ _ hs).mono ?_
  rintro e w1 ⟨hb, h | ⟨h, h'⟩⟩
  · obtain ⟨v', hv', _⟩ := h
    rw [HV.out] at hv'; cases hv'
  · obtain ⟨pv, rfl⟩ := h'
    clear h
    have hs1 : w.heap.size + 2 ≤ w1.heap.size := by have := hb.size; simpa using this
    have c0 : w1.cell? ⟨w.heap.size, 0, none⟩ = some (.int .i64 0) := (hb.cell (p := ⟨w.heap.size, 0, none⟩) (by simp; omega)).trans (by simp [go_sem])
    have c1 : w1.cell? ⟨w.heap.size + 1, 0, none⟩ = some (.bool false) := (hb.cell (p := ⟨w.heap.size + 1, 0, none⟩) (by simp)).trans (by simp [go_sem])
    have f0 : w1.frozen? ⟨w.heap.size, 0, none⟩ = false := (hb.frozen (p := ⟨w.heap.size, 0, none⟩) (by simp; omega)).trans (by simp [go_sem])
    have f1 : w1.frozen? ⟨w.heap.size + 1, 0, none⟩ = false := (hb.frozen (p := ⟨w.heap.size + 1, 0, none⟩) (by simp)).trans (by simp [go_sem])
    have hbw : Below w.heap.size w w1 := (((Below.refl _ _).alloc (Nat.le_refl _) _).alloc (by simp) _).trans (hb.mono (by simp; omega))
    have HB := Lib.hid hbw
    clear hb hbw
    go_wp2
    refine leaves_cons (f := 61) (args := #[.pointer (some ⟨w.heap.size, 0, none⟩), .pointer (some ⟨w.heap.size + 1, 0, none⟩)]) (by simp) (by simp [go_sem]) ?_
    refine (catch_panic ⟨w.heap.size, 0, none⟩ ⟨w.heap.size + 1, 0, none⟩ 0 false 9 pv [] _ (by simp) c0 f0 c1 f1).mono ?_
    rintro e u' w'' ⟨rfl, rfl, rfl⟩
    have hB := (HB.out.setCell (p := ⟨w.heap.size, 0, none⟩) (Nat.le_refl _) (.int .i64 0)).setCell (p := ⟨w.heap.size + 1, 0, none⟩) (Nat.le_succ _) (.bool false)
    simp [Leaves, settle, results, Tryd.results45, go_sem, c0, c1]
    exact hB

end Go.Proofs.YtonnolpjfjbjpaaDoor
