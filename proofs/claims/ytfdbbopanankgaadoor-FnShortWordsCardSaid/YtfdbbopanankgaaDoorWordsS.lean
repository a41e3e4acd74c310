/- The words of at most so many letters in their order, the model's: a list that grows by the words of one letter more; in new memory; nothing that was there changes. Condition: at most seven letters. -/
import Derived.Test.YtfdbbopanankgaaDoorWords
import Derived.Test.YtfdbbopanankgaaDoorMapK
import Derived.Test.YtfdbbopanankgaaDoorOwn
import Derived.Test.YtfdbbopanankgaaDoorCopy
import Derived.Deep.AppendLies
namespace Go.Proofs.YtfdbbopanankgaaDoor
open Go.RowKit
set_option maxHeartbeats 4000000
set_option maxRecDepth 100000
set_option linter.unusedVariables false

/-- An append onto a slice that the call owns: in its own row, or elsewhere, and then all that was there stands. -/
theorem run_append_keep {P : Program} (w : World) (base : Nat) (t ty e : TypeId) (i : TypeInfo) (z : Value) (size bytes : Nat) (ht : P.underlying t = some (.slice e)) (hi : P.info? e = some i) (hz : i.zero = some z)
    (hsize : i.size = size) (hby : i.bytes = bytes) (hzs : z.cells.size = size) (hsz : 0 < size)
    (v : Value) (n : Nat) (xs : List Value) (hown : w.ownsRow base e size v n xs)
    (a : Addr) (m c : Nat) (news : List Value) (hl : news.length = m * size) (hnews : ∀ j u, news[j]? = some u → w.cell? (a.add j) = some u) (h1 : ∀ u ∈ news, u.oneCell' = true)
    (h63 : n + m ≤ maxLen) (hbytes : (n + m) * bytes ≤ 140737488355328) (hbase : base ≤ w.heap.size) :
    ∃ v' w', (Builtin.append_ #[t, t] ty #[v, .slice (some a) m c]).run P w = .ok v' w' ∧ w'.ownsRow base e size v' (n + m) (xs ++ news) ∧ w.grownBy w' v.ownBlock ∧ (v'.ownBlock = v.ownBlock ∨ w.grownBy w' none) := by
  obtain ⟨v', w', hr, h2, h3, _, h5⟩ := run_append_own_at (P := P) w base t ty e i z size bytes ht hi hz hsize hby hzs hsz v n xs hown a m c news hl hnews h1 h63 hbytes hbase
  refine ⟨v', w', hr, h2, h3, ?_⟩
  rcases h5 with h5 | h5
  · exact .inl h5
  · right
    subst hsize
    subst hby
    have hsmall : n + m ≤ 9223372036854775807 := by simp only [maxLen] at h63; omega
    rcases hown.2 with ⟨rfl, _⟩ | ⟨g, cap, cur, rfl, hbg, hg, hnc, hcm, hcs, htake⟩
    · exact h3
    · by_cases hroom : n + m ≤ cap
      · exfalso
        have hfit : n * i.size + news.length ≤ cur.size := by rw [hl, hcs, ← Nat.add_mul]; exact Nat.mul_le_mul_right _ hroom
        have hr' := run_append_room (P := P) w t ty e i ht hi g n cap cur hg a m c news hl hnews h1 hroom hfit
        rw [hr] at hr'
        injection hr' with ev ew
        rw [ev] at h5
        have hgw := (Array.getElem?_eq_some_iff.1 hg).1
        have : g = w.heap.size := by simpa [Value.ownBlock] using h5
        omega
      · have hr' := run_append_grow (P := P) w t ty e i z ht hi hz ⟨g, 0, none⟩ n cap xs hown.1 (hown.cells (g := g) rfl) a m c news hl hnews (by omega) (by omega) (growslice_fits (by omega) hbytes)
        rw [hr] at hr'
        injection hr' with ev ew
        rw [ew]
        exact ⟨rfl, rfl, rfl, by simp, fun k hk _ => Below.heap_alloc w.drew _ k hk⟩

theorem wpList_append_keep {P : Program} (w : World) {ops : Array Oper} {rest : List Oper} {o : Oper} {a : Act} {Q : Exit → Act → World → Prop} (hgd : o.guard = none) (s x : Operand) (t : TypeId)
    (ho : o.op = .call { callee := .builtin .append, args := #[s, x], argTypes := #[t, t] })
    (base : Nat) (e : TypeId) (i : TypeInfo) (z : Value) (size bytes : Nat) (ht : P.underlying t = some (.slice e)) (hi : P.info? e = some i) (hz : i.zero = some z)
    (hsize : i.size = size) (hby : i.bytes = bytes) (hzs : z.cells.size = size) (hsz : 0 < size)
    (v : Value) (n : Nat) (xs : List Value) (hs : a.eval s = v) (hown : w.ownsRow base e size v n xs)
    (ad : Addr) (m c : Nat) (news : List Value) (hx : a.eval x = .slice (some ad) m c) (hl : news.length = m * size) (hnews : ∀ j u, news[j]? = some u → w.cell? (ad.add j) = some u) (h1 : ∀ u ∈ news, u.oneCell' = true)
    (h63 : n + m ≤ maxLen) (hbytes : (n + m) * bytes ≤ 140737488355328) (hbase : base ≤ w.heap.size)
    (h : ∀ v' w', w'.ownsRow base e size v' (n + m) (xs ++ news) → w.grownBy w' v.ownBlock → (v'.ownBlock = v.ownBlock ∨ w.grownBy w' none) → wpList P ops Q rest (a.put o.dst v') w') :
    wpList P ops Q (o :: rest) a w := by
  refine wpList_plain hgd fun K hK => ?_
  obtain ⟨v', w', hr, h2, h3, h5⟩ := run_append_keep (P := P) w base t o.type e i z size bytes ht hi hz hsize hby hzs hsz v n xs hown ad m c news hl hnews h1 h63 hbytes hbase
  unfold Oper.wp execOp
  simp only [ho, resolve, invoke, builtin, Sem.run_bind, Sem.run_pure, Result.andThen_ok, List.map_toArray, List.map_cons, List.map_nil, hs, hx, hr]
  exact hK _ _ (h v' w' h2 h3 h5)

theorem wordB_a (k b : Nat) : wordB (k + 1) (2 * b) = wordB k b ++ ⟨#[97]⟩ := by
  unfold wordB
  have e1 : 2 * b / 2 = b := by omega
  have e2 : ¬ 2 * b % 2 = 1 := by omega
  show (⟨(wordL k (2 * b / 2) ++ [if 2 * b % 2 = 1 then 98 else 97]).toArray⟩ : ByteArray) = _
  rw [e1, if_neg e2]
  apply ByteArray.ext
  simp
theorem wordB_b (k b : Nat) : wordB (k + 1) (2 * b + 1) = wordB k b ++ ⟨#[98]⟩ := by
  unfold wordB
  have e1 : (2 * b + 1) / 2 = b := by omega
  have e2 : (2 * b + 1) % 2 = 1 := by omega
  show (⟨(wordL k ((2 * b + 1) / 2) ++ [if (2 * b + 1) % 2 = 1 then 98 else 97]).toArray⟩ : ByteArray) = _
  rw [e1, if_pos e2]
  apply ByteArray.ext
  simp
theorem levelW_two (k q : Nat) : levelW (k + 1) (2 * (q + 1)) = levelW (k + 1) (2 * q) ++ [wordB k q ++ ⟨#[97]⟩, wordB k q ++ ⟨#[98]⟩] := by
  have e : 2 * (q + 1) = 2 * q + 1 + 1 := by omega
  rw [e, levelW_snoc, levelW_snoc, ← wordB_a, ← wordB_b, List.append_assoc]
  rfl

theorem info_string : (Tryd.prog.info? 9).map (fun i => (i.zero, i.size, i.bytes)) = some (some (.string ByteArray.empty), 1, 16) := by kernel_rfl

/-- The words of a level stand where they are read. -/
def Lvl (w : World) (g k : Nat) : Prop := ∀ i, i < 2 ^ k → w.cell? ⟨g, (wordsTo k).length + i, none⟩ = some (.string (wordB k i))

theorem row_form {w : World} {base : Nat} {e : TypeId} {size : Nat} {v : Value} {n : Nat} {xs : List Value} (h : w.ownsRow base e size v n xs) (hn : 0 < n) :
    ∃ g cap, v = .slice (some ⟨g, 0, none⟩) n cap ∧ base ≤ g ∧ g < w.heap.size ∧ n ≤ cap ∧ cap ≤ maxLen := by
  rcases h.2 with ⟨_, h0⟩ | ⟨g, cap, cur, hv, hb, hg, hnc, hcm, _⟩
  · omega
  · exact ⟨g, cap, hv, hb, (Array.getElem?_eq_some_iff.1 hg).1, hnc, hcm⟩

theorem l4Words_any (n : Nat) (w : World) (hn : n ≤ 7) :
    Calls Tryd.prog 20 #[.int .i64 n] w fun e w' => ∃ x, e = .returned x ∧ w'.ownsRow w.heap.size 9 1 x (wordsTo (n + 1)).length ((wordsTo (n + 1)).map Value.string) ∧ Below w.heap.size w w' := by
  obtain ⟨i0, hi, hz0, hz1, hz2⟩ := info_parts info_string
  have ZI := Lib.hid hi
  have Z0 := Lib.hid hz0
  have Z1 := Lib.hid hz1
  have Z2 := Lib.hid hz2
  clear hi hz0 hz1 hz2
  go_enter Tryd.func20, Tryd.ntmps20
  go_wp2_with fail
  go_loopw [3, 4, 10] (fun x y i wr => ∃ k : Nat, k ≤ n ∧ i = .int .i64 k ∧ y = .int .i64 (wordsTo k).length ∧ Hid (wr.ownsRow w.heap.size 9 1 x (wordsTo (k + 1)).length ((wordsTo (k + 1)).map Value.string)) ∧ Hid (Below w.heap.size w wr)) (fun _ _ i _ => n - (intOf i).toNat)
  case atStart =>
    refine ⟨0, Nat.zero_le _, rfl, rfl, ?_, Lib.hid (below_a1 w _)⟩
    show World.ownsRow _ _ _ _ _ 1 [.string ⟨#[]⟩]
    exact ⟨rfl, .inr ⟨w.heap.size, 1, #[.string ⟨#[]⟩], rfl, Nat.le_refl _, heap_alloc_new w _, Nat.le_refl _, by unfold maxLen; omega, rfl, rfl⟩⟩
  case round =>
    obtain ⟨k, hk, rfl, rfl, ho, hb⟩ := hrel
    by_cases hlt : k < n
    · have hk1 : (k : Int) < (n : Int) := by omega
      obtain ⟨p, hp⟩ : ∃ p, p = 2 ^ k := ⟨_, rfl⟩
      have hp0 : 0 < p := by rw [hp]; exact Nat.pos_of_ne_zero (by simp)
      have hp1 : p ≤ 64 := by rw [hp]; exact Nat.pow_le_pow_right (by omega) (show k ≤ 6 by omega)
      obtain ⟨B, hB⟩ : ∃ B, B = (wordsTo k).length := ⟨_, rfl⟩
      obtain ⟨E, hE⟩ : ∃ E, E = (wordsTo (k + 1)).length := ⟨_, rfl⟩
      have hBE : E = B + p := by rw [hE, hB, hp, wordsTo_succ, List.length_append, levelW_len]
      have hBp : B + 1 = p := by rw [hB, hp]; exact wordsTo_len k
      obtain ⟨g, cap, rfl, hg0, hgw, hcap, hcm⟩ := row_form ho.out (by omega)
      rw [← hE] at ho hcap ⊢
      rw [← hB]
      have HE := Lib.hid hE
      have HB := Lib.hid hB
      have HP := Lib.hid hp
      have L0 : Hid (Lvl wr g k) := by
        intro i hi
        have h := ho.out.cells (g := g) rfl (B + i) (.string (wordB k i)) ?_
        · have e : ((⟨g, 0, none⟩ : Addr).add (B + i)) = ⟨g, (wordsTo k).length + i, none⟩ := by rw [Addr.add_lit, ← hB, Nat.zero_add]
          rwa [e] at h
        · rw [List.getElem?_map, hB, wordsTo_succ, List.getElem?_append_right (by omega)]
          unfold levelW
          simp [hi]
      have HBE := Lib.hid hBE
      have HBp := Lib.hid hBp
      have eEB : E - B = p := by omega
      have lBE : (B : Int) ≤ (E : Int) := by omega
      have lBE' : B ≤ E := by omega
      have hE1 : 1 ≤ E := by omega
      have hE9 : E ≤ 128 := by omega
      clear hE hB hp hBE hBp
      go_wp2_with fail
      have HEB := Lib.hid eEB
      clear eEB
      go_loopw [3, 19] (fun x i wr => ∃ q : Nat, q ≤ p ∧ i = .int .i64 q ∧ Hid (wr.ownsRow w.heap.size 9 1 x (E + 2 * q) ((wordsTo (k + 1) ++ levelW (k + 1) (2 * q)).map Value.string)) ∧ Hid (Below w.heap.size w wr) ∧ Hid (Lvl wr g k) ∧ g < wr.heap.size) (fun _ i _ => p - (intOf i).toNat)
      case atStart =>
        refine ⟨0, Nat.zero_le _, rfl, ?_, hb, L0, hgw⟩
        show World.ownsRow _ _ _ _ _ _ _
        have e : levelW (k + 1) (2 * 0) = [] := rfl
        rw [e, List.append_nil]
        exact ho.out
      case round =>
        obtain ⟨q, hq, rfl, ho2, hb2, hl2, hg2⟩ := hrel
        by_cases hqt : q < p
        · have hq1 : (q : Int) < (p : Int) := by omega
          have hld := hl2.out q (by rw [← HP.out]; exact hqt)
          rw [← HB.out] at hld
          obtain ⟨s, hs⟩ : ∃ s, wordB k q = s := ⟨_, rfl⟩
          have HS := Lib.hid hs
          have hsz : s.size ≤ 7 := by rw [← hs, wordB_size]; omega
          rw [hs] at hld
          clear hs
          obtain ⟨g2, cap2, rfl, hg20, hg2w, _, _⟩ := row_form ho2.out (by omega)
          go_wp2_with (first | (at_builtin; refine wpList_append_keep _ rfl _ _ 32 rfl w.heap.size 9 i0 (.string ByteArray.empty) 1 16 Tryd.underlying32 ZI.out Z0.out Z1.out Z2.out rfl (by decide) _ _ _ rfl (World.ownsRow.alloc ho2.out _) ⟨wr.heap.size, 0, none⟩ 2 2 [.string (s ++ ⟨#[97]⟩), .string (s ++ ⟨#[98]⟩)] rfl rfl ?a0 ?b0 ?c0 ?d0 ?e0 ?_) | fail)
          case a0 => exact World.news_of_block (heap_alloc_new wr _)
          case b0 => intro u hu; simp at hu; rcases hu with rfl | rfl <;> rfl
          case c0 => unfold maxLen; omega
          case d0 => omega
          case e0 => simp; omega
          intro v' w5 hown' hgrow hat
          have HO := Lib.hid hown'
          have HG := Lib.hid hgrow
          have HA := Lib.hid hat
          clear hown' hgrow hat
          go_wp2_with fail
          have hlv : Lvl w5 g k := by
            intro i hi
            have h0 := hl2.out i hi
            have hx : (wr.alloc (.cells #[.string (s ++ ⟨#[97]⟩), .string (s ++ ⟨#[98]⟩)] 9)).cell? ⟨g, (wordsTo k).length + i, none⟩ = some (.string (wordB k i)) := by
              rw [World.cell?_alloc_lt]
              · exact h0
              · exact hg2
            by_cases hgg : g2 = g
            · rcases HA.out with h | h
              · obtain ⟨g3, cap3, rfl, _, _, _, _⟩ := row_form HO.out (by omega)
                have e3 : g3 = g := by
                  have : some g3 = some g2 := h
                  rw [Option.some.inj this, hgg]
                subst e3
                have hc := HO.out.cells (g := g3) rfl (B + i) (.string (wordB k i)) ?_
                · have e : ((⟨g3, 0, none⟩ : Addr).add (B + i)) = ⟨g3, (wordsTo k).length + i, none⟩ := by rw [Addr.add_lit, HB.out, Nat.zero_add]
                  rwa [e] at hc
                · have hlw : B + i < (wordsTo (k + 1)).length := by rw [← HE.out, HBE.out, HP.out]; omega
                  rw [List.getElem?_append_left (by simpa using hlw), List.getElem?_map, HB.out, wordsTo_succ, List.getElem?_append_right (by omega)]
                  unfold levelW
                  simp [hi]
              · exact (h.cell_far _ (by simp; omega) (by simp)).trans hx
            · exact (HG.out.cell_far _ (by simp; omega) (by intro e; exact hgg (Option.some.inj e).symm)).trans hx
          go_roundw
          case rel =>
            refine ⟨q + 1, by omega, by go_num, ?_, ?_, Lib.hid hlv, ?_⟩
            · show World.ownsRow _ _ _ _ _ _ _
              have h := HO.out
              have e : (wordsTo (k + 1) ++ levelW (k + 1) (2 * (q + 1))).map Value.string = (wordsTo (k + 1)).map Value.string ++ ((levelW (k + 1) (2 * q)).map Value.string ++ [.string (s ++ ⟨#[97]⟩), .string (s ++ ⟨#[98]⟩)]) := by rw [levelW_two, HS.out]; simp
              have e2 : E + 2 * (q + 1) = E + 2 * q + 2 := by omega
              rw [e, e2]
              exact h
            · exact (below_al hb2.out (Nat.le_refl _) _).grown HG.out (by have := hb2.out.size; simp; omega) (fun j hj => by have : g2 = j := Option.some.inj hj; omega)
            · have := HG.out.size; simp at this; omega
          case measure => simp [intOf]; omega
        · have hqp : q = p := by omega
          subst hqp
          go_wp2_with fail
          go_roundw
          case rel =>
            refine ⟨k + 1, by omega, by go_num, ?_, ?_, hb2⟩
            · rw [← HE.out]
            · show World.ownsRow _ _ _ _ _ _ _
              have h := ho2.out
              have e1 : 2 * q = 2 ^ (k + 1) := by rw [HP.out, Nat.pow_succ]; omega
              have e2 : E + 2 * q = (wordsTo (k + 1 + 1)).length := by rw [wordsTo_succ (k + 1), List.length_append, levelW_len, ← HE.out, e1]
              rw [e2, e1] at h
              exact h
          case measure => simp [intOf]; omega
    · have hkn : k = n := by omega
      subst hkn
      go_wp2_with fail
      go_ret
      exact ⟨_, rfl, ho.out, hb.out⟩
end Go.Proofs.YtfdbbopanankgaaDoor
