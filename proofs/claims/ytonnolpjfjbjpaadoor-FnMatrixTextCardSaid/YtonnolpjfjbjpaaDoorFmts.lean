/- The texts of lists of costs, the program's and the model's: each returns the same bytes; nothing that was there changes. Conditions: at most 2^20 numbers; the library's table of powers of ten reads as its text lays it. -/
import Derived.Test.YtonnolpjfjbjpaaDoorFmt
import Derived.Test.YtonnolpjfjbjpaaDoorCopy
import Derived.Lib.Join
namespace Go.Proofs.YtonnolpjfjbjpaaDoor
open Go.RowKit
set_option maxHeartbeats 1000000
set_option maxRecDepth 100000
set_option linter.unusedVariables false

/-- The bytes of the text of a list. -/
def costsF (zs : List Int) : List UInt8 := if allV zs = true then Lib.join (zs.map fmtF) [32] else []
theorem costsF_no {zs : List Int} (h : allV zs = false) : costsF zs = [] := by unfold costsF; rw [h]; simp
theorem costsF_ok {zs : List Int} (h : allV zs = true) : costsF zs = Lib.join (zs.map fmtF) [32] := by unfold costsF; rw [if_pos h]

theorem join_snoc {l : List (List UInt8)} (x sep : List UInt8) (h : ¬ l = []) : Lib.join (l ++ [x]) sep = Lib.join l sep ++ sep ++ x := by
  cases l with
  | nil => exact absurd rfl h
  | cons a r =>
    rw [List.cons_append, Lib.join_cons, Lib.join_cons]
    simp [Lib.joinTail]
theorem nd_le (m : Nat) : ∀ k, k < 10 ^ (m + 1) → (Lib.decDigits k).length ≤ m + 1 := by
  induction m with
  | zero => intro k hk; rw [dec_small (by omega)]; simp
  | succ m ih =>
    intro k hk
    by_cases h : 9 < k
    · rw [dec_big h, List.length_append]
      have := ih (k / 10) (by rw [Nat.pow_succ] at hk; omega)
      simp; omega
    · rw [dec_small h]; simp
theorem fmtF_len (a : Int) : (fmtF a).length ≤ 7 := by
  unfold fmtF
  split
  · rename_i hv
    have := vld_t hv
    split
    · simp
    · have := nd_le 6 a.toNat (by omega); omega
  · simp
theorem nd_ne (k : Nat) : ¬ Lib.decDigits k = [] := by
  by_cases h : 9 < k
  · rw [dec_big h]; simp
  · rw [dec_small h]; simp
theorem fmtF_ne {a : Int} (hv : vld a = true) : ¬ fmtF a = [] := by
  unfold fmtF
  rw [if_pos hv]
  split
  · simp
  · exact nd_ne _
theorem join_len (l : List (List UInt8)) (h : ∀ x ∈ l, x.length ≤ 7) : (Lib.join l [32]).length ≤ 8 * l.length := by
  cases l with
  | nil => simp [Lib.join_nil]
  | cons a r =>
    rw [Lib.join_cons, List.length_append]
    have ha := h a (by simp)
    have hr : (Lib.joinTail [32] r).length ≤ 8 * r.length := by
      have : ∀ r : List (List UInt8), (∀ x ∈ r, x.length ≤ 7) → (Lib.joinTail [32] r).length ≤ 8 * r.length := by
        intro r
        induction r with
        | nil => intro _; simp [Lib.joinTail]
        | cons b r ih =>
          intro hh
          have hb := hh b (by simp)
          have := ih (fun x hx => hh x (by simp [hx]))
          simp [Lib.joinTail] at this ⊢
          omega
      exact this r (fun x hx => h x (by simp [hx]))
    simp; omega
theorem costs_len (zs : List Int) : (Lib.join (zs.map fmtF) [32]).length ≤ 8 * zs.length := by
  have := join_len (zs.map fmtF) (by intro x hx; obtain ⟨a, _, rfl⟩ := List.mem_map.1 hx; exact fmtF_len a)
  simpa using this

theorem allV_none {zs : List Int} {k : Nat} {z : Int} (hd : zs.drop k = z :: zs.drop (k + 1)) (hv : vld z = false) : allV zs = false := by
  have hm : z ∈ zs := List.mem_of_mem_drop (i := k) (by rw [hd]; simp)
  cases h : allV zs
  · rfl
  · have := List.all_eq_true.1 h z hm
    rw [hv] at this; cases this
theorem allV_take {zs : List Int} {k : Nat} {z : Int} (h : allV (zs.take k) = true) (hg : zs.take (k + 1) = zs.take k ++ [z]) (hv : vld z = true) : allV (zs.take (k + 1)) = true := by
  rw [hg]; simp [allV] at h ⊢; exact ⟨h, hv⟩
theorem take_next {zs : List Int} {k : Nat} {z : Int} (hk : k < zs.length) (hg : zs.getD k 0 = z) : zs.take (k + 1) = zs.take k ++ [z] := by
  rw [List.take_succ_eq_append_getElem hk]
  rw [List.getD_eq_getElem?_getD, List.getElem?_eq_getElem hk] at hg
  rw [← hg]; rfl

theorem sFmts_any (A : Option Addr) (cap : Nat) (zs : List Int) (w : World) (hz : Ints w w.heap.size A zs) (hlen : zs.length ≤ 1048576) :
    Calls Tryd.prog 24 #[.slice A zs.length cap] w fun e w' => FmtEnd (costsF zs) w e w' := by
  have hl := hz.len
  go_enter Tryd.func24, Tryd.ntmps24
  go_wp2
  go_loopw [3, 8] (fun s i wr => ∃ (k : Nat) (t : ByteArray), k ≤ zs.length ∧ i = .int .i64 k ∧ s = .string t ∧ Hid (t.data.toList = Lib.join ((zs.take k).map fmtF) [32]) ∧ Hid (allV (zs.take k) = true) ∧ t.size ≤ 8 * k ∧ Below w.heap.size w wr) (fun _ i _ => zs.length - (intOf i).toNat)
  case atStart => exact ⟨0, ByteArray.empty, Nat.zero_le _, rfl, rfl, rfl, rfl, Nat.le_refl _, Below.refl _ _⟩
  case round =>
    obtain ⟨k, t, hk, rfl, rfl, hd, hv, ht, hb⟩ := hrel
    by_cases hlt : k < zs.length
    · obtain ⟨b, off, z, rfl, hbB, hc, hdr, hg⟩ := hz.at_ hlt
      have hc' : wr.cell? ⟨b, off + k, none⟩ = some (.int .i64 z) := (hb.cell (p := ⟨b, off + k, none⟩) hbB).trans hc
      have HN := Lib.hid (take_next hlt hg)
      have HD := Lib.hid hdr
      have hfl := fmtF_len z
      clear hdr hg hc
      rcases vld_cases z with hvz | hvz
      · have HV := Lib.hid hvz
        clear hvz
        by_cases h0 : k = 0
        · have ht0 : t.data.toList = [] := by rw [hd.out, h0]; rfl
          have HT0 := Lib.hid ht0
          have h0' : ¬ (0 : Int) < (k : Int) := by omega
          have H0 := Lib.hid h0
          clear ht0 h0
          go_wp2_with fail
          refine (sValid_t _ _ HV.out).mono ?_
          rintro e w' ⟨rfl, rfl⟩
          go_wp2_with fail
          refine (sFmt_any _ _).mono ?_
          rintro e w2 ⟨rfl, hb2⟩
          go_wp2_with fail
          go_roundw
          case rel =>
            refine ⟨k + 1, _, by omega, by go_num, rfl, ?_, allV_take hv.out HN.out HV.out, ?_, hb.trans (hb2.mono hb.size)⟩
            · show _ = _
              rw [HN.out, List.map_append, H0.out, List.take_zero, ByteArray.data_append, Array.toList_append, HT0.out]
              simp [Lib.join_one]
            · rw [ByteArray.size_append]; show t.size + (fmtF z).toArray.size ≤ 8 * (k + 1); simp; omega
          case measure => simp [intOf]; omega
        · have h0' : (0 : Int) < (k : Int) := by omega
          go_wp2_with fail
          refine (sValid_t _ _ HV.out).mono ?_
          rintro e w' ⟨rfl, rfl⟩
          go_wp2_with fail
          refine (sFmt_any _ _).mono ?_
          rintro e w2 ⟨rfl, hb2⟩
          go_wp2_with fail
          go_roundw
          case rel =>
            refine ⟨k + 1, _, by omega, by go_num, rfl, ?_, allV_take hv.out HN.out HV.out, ?_, hb.trans (hb2.mono hb.size)⟩
            · show _ = _
              rw [HN.out, List.map_append, List.map_cons, List.map_nil, join_snoc _ _ (by intro he; have h := congrArg List.length he; rw [List.length_map, List.length_take, List.length_nil] at h; omega), ← hd.out]
              simp [ByteArray.data_append]
            · rw [ByteArray.size_append, ByteArray.size_append]; show t.size + 1 + (fmtF z).toArray.size ≤ 8 * (k + 1); simp; omega
          case measure => simp [intOf]; omega
      · have HV := Lib.hid hvz
        have HE := Lib.hid (costsF_no (allV_none HD.out hvz))
        clear hvz
        go_wp2_with fail
        refine (sValid_f _ _ HV.out).mono ?_
        rintro e w' ⟨rfl, rfl⟩
        go_wp2_with fail
        go_ret
        exact FmtEnd.mk_ HE.out hb
    · have HE := Lib.hid (costsF_ok (zs := zs) (by have := hv.out; rwa [List.take_of_length_le (by omega)] at this))
      go_wp2
      go_ret
      have e : t = ⟨(costsF zs).toArray⟩ := by
        apply Go.WideShapes.bytes_inj
        rw [hd.out, HE.out, List.take_of_length_le (by omega)]
      rw [e]
      exact ⟨rfl, hb⟩

theorem info_str : (Tryd.prog.info? 9).map (fun i => (i.zero, i.size, i.bytes)) = some (some (.string ByteArray.empty), 1, 16) := by kernel_rfl
theorem own_below {w w' : World} {base g n cap : Nat} {t : TypeId} {xs : List Value} (h : w.ownsRow base t 1 (.slice (some ⟨g, 0, none⟩) n cap) n xs) (hb : Below w.heap.size w w') : w'.ownsRow base t 1 (.slice (some ⟨g, 0, none⟩) n cap) n xs :=
  h.kept (row := none) ⟨hb.os, hb.tape, hb.output, hb.size, fun k hk _ => hb.block k hk⟩ (Or.inr (by simp [Value.ownBlock]))
/-- The text of a number as a value. -/
def fb (a : Int) : ByteArray := ⟨(fmtF a).toArray⟩
def fv (a : Int) : Value := .string ⟨(fmtF a).toArray⟩

theorem fmts_any (A : Option Addr) (cap : Nat) (zs : List Int) (w : World) (hz : Ints w w.heap.size A zs) (hlen : zs.length ≤ 1048576) (ht : Tab10 w) (hB : 3 < w.heap.size) :
    Calls Tryd.prog 18 #[.slice A zs.length cap] w fun e w' => FmtEnd (costsF zs) w e w' := by
  have hl := hz.len
  have HT := Lib.hid ht
  clear ht
  obtain ⟨i0, hi, hz0, hz1, hz2⟩ := info_parts info_str
  have hb2 : i0.bytes * zs.length ≤ 281474976710656 := by rw [hz2]; omega
  have Z0 := Lib.hid hz0
  have Z1 := Lib.hid hz1
  have ZI := Lib.hid hi
  have HM := Lib.hid (show zs.length ≤ maxLen by unfold maxLen; omega)
  have HB2 := Lib.hid hb2
  clear hz0 hz1 hz2 hi hb2
  go_enter Tryd.func18, Tryd.ntmps18
  go_wp2_with (at_make; refine wpList_make_full _ rfl _ _ 40 rfl w.heap.size 9 i0 (.string ByteArray.empty) 1 Tryd.underlying40 ZI.out Z0.out Z1.out _ _ _ _ zs.length rfl rfl rfl rfl HB2.out HM.out (Nat.le_refl _) ?_; intro w1 hown hgr)
  have hb1 : Below w.heap.size w w1 := (Below.refl _ _).grown hgr (Nat.le_refl _) (fun k hk => by cases hk)
  have HOWN := Lib.hid hown
  clear hown hgr
  go_loopw [11] (fun i wr => ∃ (k : Nat) (cs : List Value), k ≤ zs.length ∧ i = .int .i64 k ∧ Hid (wr.ownsRow w.heap.size 9 1 (.slice (some ⟨w.heap.size, 0, none⟩) zs.length zs.length) zs.length cs) ∧ Hid (cs.take k = (zs.take k).map fv) ∧ Hid (allV (zs.take k) = true) ∧ Below w.heap.size w wr) (fun i _ => zs.length - (intOf i).toNat)
  case atStart => exact ⟨0, _, Nat.zero_le _, rfl, HOWN.out, rfl, rfl, hb1⟩
  case round =>
    obtain ⟨k, cs, hk, rfl, hown, htk, hv, hb⟩ := hrel
    have hsz : cs.length = zs.length := by have := hown.out.1; omega
    by_cases hlt : k < zs.length
    · obtain ⟨b, off, z, rfl, hbB, hc, hdr, hg⟩ := hz.at_ hlt
      have hc' : wr.cell? ⟨b, off + k, none⟩ = some (.int .i64 z) := (hb.cell (p := ⟨b, off + k, none⟩) hbB).trans hc
      have HN := Lib.hid (take_next hlt hg)
      have HD := Lib.hid hdr
      have HS := Lib.hid hsz
      clear hdr hg hc HOWN hb1 hsz
      go_wp2_with fail
      refine (fmt_any _ _ (tab10_below HT.out hb hB)).mono ?_
      rintro e w2 ⟨rfl, hb2⟩
      have hO := own_below hown.out hb2
      obtain ⟨u0, hcell⟩ : ∃ u0, w2.cell? ⟨w.heap.size, k, none⟩ = some u0 := ⟨_, by rw [hO.cellAt k (by have := HS.out; omega), List.getElem?_eq_getElem (by have := HS.out; omega)]⟩
      have hfr := hO.frozenAt k
      obtain ⟨hst, _⟩ := hO.stored k (fv z)
      have HST := Lib.hid hst
      have HBW := Lib.hid ((hb.trans (hb2.mono hb.size)).setCell (p := ⟨w.heap.size, k, none⟩) (Nat.le_refl _) (fv z))
      clear hO hst
      rcases vld_cases z with hvz | hvz
      · have hne : (fmtF z).isEmpty = false := by simpa using fmtF_ne hvz
        have HV := Lib.hid hvz
        clear hvz
        go_wp2_with fail
        go_roundw
        case rel =>
          refine ⟨k + 1, _, by omega, by go_num, HST.out, ?_, allV_take hv.out HN.out HV.out, HBW.out⟩
          show _ = _
          rw [take_set_snoc _ _ _ (by have := HS.out; omega), htk.out, HN.out, List.map_append]
          rfl
        case measure => simp [intOf]; omega
      · have hne : (fmtF z).isEmpty = true := by rw [fmtF_no hvz]; rfl
        have HE := Lib.hid (costsF_no (allV_none HD.out hvz))
        clear hvz
        go_wp2_with fail
        go_ret
        exact FmtEnd.mk_ HE.out HBW.out
    · have hall : allV zs = true := by have := hv.out; rwa [List.take_of_length_le (by omega)] at this
      have hcs : cs = zs.map fv := by have := htk.out; rwa [List.take_of_length_le (by omega), List.take_of_length_le (by omega)] at this
      have hcells : ∀ (j : Nat) x, (zs.map fb)[j]? = some x → wr.cell? ⟨w.heap.size, 0 + j, none⟩ = some (.string x) := by
        intro j x hj
        rw [List.getElem?_map] at hj
        have hjl : j < zs.length := by
          rcases Nat.lt_or_ge j zs.length with h | h
          · exact h
          · rw [List.getElem?_eq_none h] at hj; cases hj
        rw [Nat.zero_add, hown.out.cellAt j (by omega), hcs, List.getElem?_map]
        rw [List.getElem?_eq_getElem hjl] at hj ⊢
        cases hj
        rfl
      have hmap : (zs.map fb).map (·.data.toList) = zs.map fmtF := by rw [List.map_map]; rfl
      have hj := Tryd.strings_Join w.heap.size 0 zs.length (zs.map fb) ⟨#[32]⟩ wr hcells ((hown.out.lt w.heap.size rfl).2) (by rw [List.length_map]; omega) (by rw [List.length_map]; exact Nat.le_refl _) (by rw [hmap]; have := costs_len zs; show (Lib.join (zs.map fmtF) [32]).length ≤ _; omega)
      rw [hmap, List.length_map] at hj
      have HJ := Lib.hid hj
      have HE := Lib.hid (costsF_ok hall)
      clear hj hcells hmap hcs hall hsz HOWN hb1
      go_wp2_with fail
      refine HJ.out.mono ?_
      rintro e w3 ⟨rfl, hb3⟩
      go_wp2_with fail
      go_ret
      exact FmtEnd.mk_ HE.out (hb.trans (hb3.mono hb.size))

theorem below_drawn {B : Nat} {a w : World} (h : Below B a w) (m : Nat) : Below B a (w.drewN m) := ⟨h.os, h.tape, h.output, h.size, h.block⟩

end Go.Proofs.YtonnolpjfjbjpaaDoor
