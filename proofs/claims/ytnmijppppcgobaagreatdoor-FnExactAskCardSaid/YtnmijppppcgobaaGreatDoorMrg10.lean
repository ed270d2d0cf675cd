/- A slice of ints that came in reads as a list of ints. -/
import Derived.Test.YtnmijppppcgobaaGreatDoorMrg1
import Derived.OpenShut
import Derived.ChangeSlices
import Derived.Test.YtnmijppppcgobaaGreatDoorMrg2
import Derived.Test.YtnmijppppcgobaaGreatDoorMrg4
import Derived.Test.YtnmijppppcgobaaGreatDoorMrg3
import Derived.Deep.DeepCutAuto
set_option linter.unusedVariables false
namespace Go.Proofs.YtnmijppppcgobaaGreatDoor
open Go.ChangeShapes Go.WideShapes Go.ChangeAt Go.RowKit Go.WideElems

end Go.Proofs.YtnmijppppcgobaaGreatDoor
set_option linter.unusedVariables false
namespace Go.Proofs.YtnmijppppcgobaaGreatDoor
open Go.ChangeShapes Go.WideShapes Go.ChangeAt Go.RowKit Go.Deep

set_option maxRecDepth 100000 in
theorem opens_hold {H : Type} {enc : TypeId × Value → H} {W : World} : Opens enc Tryz.prog W HoldR 168 (fun x => x.1.size ≤ maxLen ∧ (Lit.int .i64 x.2.1).wf = true ∧ (Lit.int .i64 x.2.2).wf = true) :=
  opens_struct Tryz.underlying168 (by kernel_rfl) (opensF_cons (opens_str Tryz.underlying9) rfl (by kernel_rfl) (opensF_cons (opens_int Tryz.underlying3) rfl (by kernel_rfl) (opensF_one (opens_int Tryz.underlying3) rfl (by kernel_rfl))))
end Go.Proofs.YtnmijppppcgobaaGreatDoor
set_option linter.unusedVariables false
namespace Go.Proofs.YtnmijppppcgobaaGreatDoor
open Go.ChangeShapes Go.WideShapes Go.ChangeAt Go.RowKit Go.WideElems

end Go.Proofs.YtnmijppppcgobaaGreatDoor
set_option linter.unusedVariables false
namespace Go.Proofs.YtnmijppppcgobaaGreatDoor
open Go.ChangeShapes Go.WideShapes Go.ChangeAt Go.RowKit Go.Deep

set_option maxRecDepth 100000 in
theorem opens_slot {H : Type} {enc : TypeId × Value → H} {W : World} : Opens enc Tryz.prog W SlotR 172 (fun x => x.1.size ≤ maxLen ∧ x.2.1.size ≤ maxLen ∧ (x.2.2.length ≤ maxLen ∧ ∀ y ∈ x.2.2, (Lit.int .u8 y).wf = true)) :=
  opens_struct Tryz.underlying172 (by kernel_rfl) (opensF_cons (opens_str Tryz.underlying9) rfl (by kernel_rfl) (opensF_cons (opens_str Tryz.underlying9) rfl (by kernel_rfl) (opensF_one (opens_slice (by decide) Tryz.underlying22 (by kernel_rfl) (opens_int Tryz.underlying5)) rfl (by kernel_rfl))))
end Go.Proofs.YtnmijppppcgobaaGreatDoor
set_option linter.unusedVariables false
namespace Go.Proofs.YtnmijppppcgobaaGreatDoor
open Go.ChangeShapes Go.WideShapes Go.ChangeAt Go.RowKit Go.Deep

set_option maxRecDepth 100000 in
theorem open_acct {H : Type} {enc : TypeId × Value → H} {W : World} {base : Nat} {v : Value} {d : DataW H} {p : List MemPlace} (hval : Value.okWide Tryz.prog W .any base 59 v) (h : DataW.Trod enc Tryz.prog W 0 (fun _ => true) true 59 v d p) :
    ∃ (a : AcctD) (vh vc vs vl : Value), v = .agg #[.string (aId a), .int .i64 (aLim a), .int .i64 (aPos a), .int .i64 (aMost a), .int .i64 (aSum a), vh, .int .i64 (aR a).1, .int .i64 (aR a).2.1, vc, vs, vl] ∧ AcctR.rd W.heap.size W (aCells a vh vc vs vl) a ∧ acctBig a := by
  obtain ⟨cs, rfl, hsz⟩ := okWide_struct Tryz.underlying59 hval
  obtain ⟨fuel, hf⟩ := h
  have hL := opens_slice (by decide) Tryz.underlying55 (by kernel_rfl) (opens_hold (enc := enc) (W := W))
  have hS := opens_slice (by decide) Tryz.underlying57 (by kernel_rfl) (opens_slot (enc := enc) (W := W))
  have hI0 : Opens enc Tryz.prog W (Rep.int .i64) 3 _ := opens_int Tryz.underlying3
  have hI : Opens enc Tryz.prog W IntsR 24 _ := opens_slice (by decide) Tryz.underlying24 (by kernel_rfl) hI0
  have hR : Opens enc Tryz.prog W RingR 56 _ := opens_struct Tryz.underlying56 (by kernel_rfl) (opensF_cons hI0 rfl (by kernel_rfl) (opensF_cons hI0 rfl (by kernel_rfl) (opensF_cons hI rfl (by kernel_rfl) (opensF_one hI rfl (by kernel_rfl)))))
  have hA : Opens enc Tryz.prog W AcctR 59 _ := opens_struct Tryz.underlying59 (by kernel_rfl) (opensF_cons (opens_str Tryz.underlying9) rfl (by kernel_rfl) (opensF_cons (opens_int Tryz.underlying3) rfl (by kernel_rfl) (opensF_cons (opens_int Tryz.underlying3) rfl (by kernel_rfl) (opensF_cons (opens_int Tryz.underlying3) rfl (by kernel_rfl) (opensF_cons (opens_int Tryz.underlying3) rfl (by kernel_rfl) (opensF_cons hL rfl (by kernel_rfl) (opensF_cons hR rfl (by kernel_rfl) (opensF_one hS rfl (by kernel_rfl)))))))))
  obtain ⟨a, hr, h1, h2, h3, h4, h5, ⟨h6, h7⟩, ⟨h8, h9, ⟨h10, h11⟩, h12, h13⟩, h14, h15⟩ := hA fuel _ _ hf
  obtain ⟨vh, vc, vs, vl, hcs, q1, q2, q3, q4⟩ := acct_rd hr
  refine ⟨a, vh, vc, vs, vl, ?_, ?_, ⟨h1, h6, fun x hx => (h7 x hx).1, h10, h12, h14, fun x hx => ⟨(h15 x hx).1, (h15 x hx).2.1, (h15 x hx).2.2.1⟩⟩⟩
  · have hcs' : cs.toList = aCells a vh vc vs vl := hcs
    have : cs = (aCells a vh vc vs vl).toArray := by rw [← hcs']
    rw [this]; rfl
  · exact acct_rd_of q1 q2 q3 q4
end Go.Proofs.YtnmijppppcgobaaGreatDoor
set_option linter.unusedVariables false
namespace Go.Proofs.YtnmijppppcgobaaGreatDoor
open Go.ChangeShapes Go.WideShapes Go.ChangeAt Go.RowKit

set_option maxRecDepth 100000 in
set_option maxHeartbeats 6400000 in
theorem specTotal_any (hi : Nat) (vc vs : Value) (r : RingD) (now : Int) (sums : Bool) (w : World) (h1 : rd .i64 hi w vc r.2.2.1) (h2 : rd .i64 hi w vs r.2.2.2) (hh : hi ≤ w.heap.size) (hc : r.2.2.1.length ≤ 1048576) (hs : r.2.2.2.length ≤ 1048576) :
    Calls Tryz.prog 226 #[.agg #[.int .i64 r.1, .int .i64 r.2.1, vc, vs], .int .i64 now, .bool sums] w fun e w' => e = .returned (.int .i64 (ringTotal r now sums)) ∧ Below w.heap.size w w' := by
  obtain ⟨A1, c1, rfl, -⟩ := h1.form
  obtain ⟨A2, c2, rfl, -⟩ := h2.form
  have HOK := Lib.hid (fun W (hW : Below w.heap.size w W) => specRingOk_any hi _ _ r W (h1.below hW hh) (h2.below hW hh) (Nat.le_trans hh hW.size) hc hs)
  have HRO := Lib.hid (fun W (hW : Below w.heap.size w W) => specRingRoll_any hi _ _ r now W (h1.below hW hh) (h2.below hW hh) (Nat.le_trans hh hW.size) hc hs)
  have HTM := Lib.hid (fun W => specTime_any now W)
  clear h1 h2
  have HLEN := Lib.hid (fun h => ringOk_len (r := r) h)
  have HLC := Lib.hid (ringRoll_lc r now)
  have HLS := Lib.hid (ringRoll_ls r now)
  have HRA : Hid (ringTotal r now sums = if (ringOk r && timeB now) = true then totalL (if sums = true then (ringRoll r now).2.2.2 else (ringRoll r now).2.2.1) else 0) := Lib.hid rfl
  generalize ringOk r = ok at HOK HLEN HRA
  generalize timeB now = tm at HTM HRA
  generalize ringRoll r now = q at HRO HRA HLC HLS
  obtain ⟨sp, hd, cs, ss⟩ := r
  obtain ⟨qs, qh, qc, qu⟩ := q
  simp only at hc hs HOK HRO HLEN HLC HLS HRA ⊢
  go_enter Tryz.func226, Tryz.ntmps226
  go_upto_region 1 with fail
  obtain ⟨W, hW⟩ : ∃ W, W = (w.alloc (.cells #[.int .i64 sp, .int .i64 hd, .slice A1 cs.length c1, .slice A2 ss.length c2] 26)) := ⟨_, rfl⟩
  have b0 : bk W w.heap.size 26 [.int .i64 sp, .int .i64 hd, .slice A1 cs.length c1, .slice A2 ss.length c2] := by rw [hW]; exact (bk.new w _ _)
  have HB0 : Hid (Below w.heap.size w W) := Lib.hid (by rw [hW]; exact ((Below.refl _ _).alloc (Nat.le_refl _) _))
  have z0 : w.heap.size + 1 ≤ W.heap.size := by rw [hW]; simp
  rw [← hW]
  clear hW
  obtain ⟨⟨p0, p1, p2, p3⟩, -⟩ := b0.cells
  have B0 := Lib.hid b0
  clear b0
  go_cut [17] (fun cv wx => cv = .bool (!(ok && tm)) ∧ Below W.heap.size W wx)
  case first =>
    clear HLEN HLC HLS HRA HRO
    cases ok
    · go_wp2_with fail
      refine (HOK.out W HB0.out).mono ?_
      rintro e w4 ⟨rfl, hb4⟩
      go_wp2
      go_meet
      exact ⟨rfl, hb4⟩
    go_wp2_with fail
    refine (HOK.out W HB0.out).mono ?_
    rintro e w4 ⟨rfl, hb4⟩
    go_wp2_with fail
    refine (HTM.out _).mono ?_
    rintro e w5 ⟨rfl, rfl⟩
    go_wp2
    go_meet
    exact ⟨rfl, hb4⟩
  case rest =>
    obtain ⟨rfl, hbc⟩ := hcut
    have b0 := B0.out.below hbc (by omega)
    have zx := hbc.size
    have HBX : Hid (Below w.heap.size w wc) := Lib.hid (HB0.out.trans (hbc.mono (by omega)))
    clear hbc HB0 B0 p0 p1 p2 p3 HOK HTM
    obtain ⟨⟨p0, p1, p2, p3⟩, -⟩ := b0.cells
    cases hg : (ok && tm)
    · have HRF : Hid (ringTotal (sp, hd, cs, ss) now sums = 0) := Lib.hid (by rw [HRA.out, hg]; rfl)
      clear HRA HRO HLC HLS hg HLEN b0
      go_wp2
      refine bodyPost_ret (v := .int .i64 0) (by simp [results, Tryz.results226, go_sem]) rfl ?_
      rw [HRF.out]
      exact ⟨rfl, HBX.out⟩
    · simp only [Bool.and_eq_true] at hg
      obtain ⟨rfl, rfl⟩ := hg
      obtain ⟨o1, o2, o3, o4, o5, o6, o7⟩ := HLEN.out rfl
      have HO5 : Hid (qu.length = qc.length) := Lib.hid (by rw [HLC.out, HLS.out]; exact o5)
      have HRT : Hid (ringTotal (sp, hd, cs, ss) now sums = totalL (if sums = true then qu else qc)) := Lib.hid (by rw [HRA.out]; rfl)
      have hq8 : qc.length ≤ 8 := by rw [HLC.out]; exact o4
      clear HRA HLC HLS HLEN o5
      go_wp2_with fail
      refine (HRO.out wc HBX.out).mono ?_
      rintro e w1 ⟨vc', vs', rfl, hm1, hb1⟩
      obtain ⟨uc, us, hv, hnc, hns, hap⟩ := ring_mine hm1
      simp only [List.cons.injEq, and_true, true_and] at hv
      obtain ⟨rfl, rfl⟩ := hv
      obtain ⟨AU, cU, rfl, -⟩ := hnc.form
      obtain ⟨AV, cV, rfl, -⟩ := hns.form
      have z1 := hb1.size
      have HB1 : Hid (Below w.heap.size w w1) := Lib.hid (HBX.out.trans (hb1.mono (by omega)))
      have HU := Lib.hid hnc.rd
      have HV := Lib.hid hns.rd
      clear hm1 hb1 hnc hns hap p0 p1 p2 p3 b0 HBX HRO
      go_upto_region 4 with fail
      obtain ⟨W2, hW2⟩ : ∃ W2, W2 = w1.alloc (.cells #[.int .i64 qs, .int .i64 qh, .slice AU qc.length cU, .slice AV qu.length cV] 26) := ⟨_, rfl⟩
      have b2 := bk.new w1 26 [.int .i64 qs, .int .i64 qh, .slice AU qc.length cU, .slice AV qu.length cV]
      have hb2 := (Below.refl w1.heap.size w1).alloc (Nat.le_refl _) (.cells #[.int .i64 qs, .int .i64 qh, .slice AU qc.length cU, .slice AV qu.length cV] 26)
      rw [show ([Value.int .i64 qs, .int .i64 qh, .slice AU qc.length cU, .slice AV qu.length cV] : List Value).toArray = #[.int .i64 qs, .int .i64 qh, .slice AU qc.length cU, .slice AV qu.length cV] from rfl] at b2
      rw [← hW2] at b2 hb2 ⊢
      clear hW2
      have HB2 : Hid (Below w.heap.size w W2) := Lib.hid (HB1.out.trans (hb2.mono (by omega)))
      have HU := Lib.hid (HU.out.below hb2 (Nat.le_refl _))
      have HV := Lib.hid (HV.out.below hb2 (Nat.le_refl _))
      clear hb2 HB1
      obtain ⟨⟨p0, p1, p2, p3⟩, -⟩ := b2.cells
      clear b2
      cases sums
      · have HRT : Hid (ringTotal (sp, hd, cs, ss) now false = totalL qc) := Lib.hid (by rw [HRT.out]; rfl)
        go_wp2
        go_loopw [8, 24] (fun nv iv wr => ∃ i : Nat, i ≤ qc.length ∧ iv = .int .i64 i ∧ nv = .int .i64 (totalL (qc.take i)) ∧ wr = W2) (fun _ iv _ => qc.length - (intOf iv).toNat)
        case atStart => exact ⟨0, Nat.zero_le _, rfl, rfl, rfl⟩
        case round =>
          obtain ⟨i, hi', rfl, rfl, rfl⟩ := hrel
          by_cases hin : i < qc.length
          · obtain ⟨x, hx⟩ : ∃ x, qc[i]? = some x := ⟨_, List.getElem?_eq_getElem hin⟩
            obtain ⟨b, off, rfl, -, hc⟩ := ring_at HU.out hx
            have HNX := Lib.hid (totalL_next hx)
            clear hx
            have g1 : (i : Int) < (qc.length : Int) := by omega
            have g2 : 0 ≤ (i : Int) := by omega
            have HSA := Lib.hid (fun W => specSat_any (totalL (qc.take i)) x W)
            go_wp2_with fail
            refine (HSA.out _).mono ?_
            rintro e w5 ⟨rfl, rfl⟩
            go_wp2
            go_roundw
            case rel => exact ⟨i + 1, by omega, by go_num, by rw [HNX.out], trivial⟩
            case measure => simp [intOf] <;> omega
          · obtain rfl : i = qc.length := by omega
            rw [List.take_length]
            go_wp2
            refine bodyPost_ret (v := .int .i64 (totalL qc)) (by simp [results, Tryz.results226, go_sem]) rfl ?_
            rw [HRT.out]
            exact ⟨rfl, HB2.out⟩
      · have HRT : Hid (ringTotal (sp, hd, cs, ss) now true = totalL qu) := Lib.hid (by rw [HRT.out]; rfl)
        go_wp2
        go_loopw [8, 24] (fun nv iv wr => ∃ i : Nat, i ≤ qc.length ∧ iv = .int .i64 i ∧ nv = .int .i64 (totalL (qu.take i)) ∧ wr = W2) (fun _ iv _ => qc.length - (intOf iv).toNat)
        case atStart => exact ⟨0, Nat.zero_le _, rfl, rfl, rfl⟩
        case round =>
          obtain ⟨i, hi', rfl, rfl, rfl⟩ := hrel
          by_cases hin : i < qc.length
          · obtain ⟨x, hx⟩ : ∃ x, qu[i]? = some x := ⟨_, List.getElem?_eq_getElem (by rw [HO5.out]; exact hin)⟩
            obtain ⟨b, off, rfl, -, hc⟩ := ring_at HV.out hx
            have HNX := Lib.hid (totalL_next hx)
            clear hx
            have g1 : (i : Int) < (qc.length : Int) := by omega
            have g3 : (i : Int) < (qu.length : Int) := by have := HO5.out; omega
            have g2 : 0 ≤ (i : Int) := by omega
            have HSA := Lib.hid (fun W => specSat_any (totalL (qu.take i)) x W)
            go_wp2_with fail
            refine (HSA.out _).mono ?_
            rintro e w5 ⟨rfl, rfl⟩
            go_wp2
            go_roundw
            case rel => exact ⟨i + 1, by omega, by go_num, by rw [HNX.out], trivial⟩
            case measure => simp [intOf] <;> omega
          · obtain rfl : i = qc.length := by omega
            have HQL : Hid (qu.take qc.length = qu) := Lib.hid (by rw [← HO5.out, List.take_length])
            rw [HQL.out]
            go_wp2
            refine bodyPost_ret (v := .int .i64 (totalL qu)) (by simp [results, Tryz.results226, go_sem]) rfl ?_
            rw [HRT.out]
            exact ⟨rfl, HB2.out⟩

set_option maxRecDepth 100000 in
theorem specCount_any (hi : Nat) (vc vs : Value) (r : RingD) (now : Int) (w : World) (h1 : rd .i64 hi w vc r.2.2.1) (h2 : rd .i64 hi w vs r.2.2.2) (hh : hi ≤ w.heap.size) (hc : r.2.2.1.length ≤ 1048576) (hs : r.2.2.2.length ≤ 1048576) :
    Calls Tryz.prog 172 #[.agg #[.int .i64 r.1, .int .i64 r.2.1, vc, vs], .int .i64 now] w fun e w' => e = .returned (.int .i64 (ringTotal r now false)) ∧ Below w.heap.size w w' := by
  obtain ⟨A1, c1, rfl, -⟩ := h1.form
  obtain ⟨A2, c2, rfl, -⟩ := h2.form
  have HT := Lib.hid (fun W (hW : Below w.heap.size w W) => specTotal_any hi _ _ r now false W (h1.below hW hh) (h2.below hW hh) (Nat.le_trans hh hW.size) hc hs)
  clear h1 h2
  generalize ringTotal r now false = x at HT ⊢
  obtain ⟨sp, hd, cs, ss⟩ := r
  simp only at HT hc hs ⊢
  have HB0 : Hid (Below w.heap.size w (w.alloc (.cells #[.int .i64 sp, .int .i64 hd, .slice A1 cs.length c1, .slice A2 ss.length c2] 26))) := Lib.hid ((Below.refl _ _).alloc (Nat.le_refl _) _)
  go_enter Tryz.func172, Tryz.ntmps172
  go_wp2_with fail
  refine (HT.out _ HB0.out).mono ?_
  rintro e w1 ⟨rfl, hb⟩
  go_wp2
  go_ret
  exact ⟨rfl, HB0.out.trans (hb.mono (by simp))⟩
set_option maxRecDepth 100000 in
theorem specSum_any (hi : Nat) (vc vs : Value) (r : RingD) (now : Int) (w : World) (h1 : rd .i64 hi w vc r.2.2.1) (h2 : rd .i64 hi w vs r.2.2.2) (hh : hi ≤ w.heap.size) (hc : r.2.2.1.length ≤ 1048576) (hs : r.2.2.2.length ≤ 1048576) :
    Calls Tryz.prog 173 #[.agg #[.int .i64 r.1, .int .i64 r.2.1, vc, vs], .int .i64 now] w fun e w' => e = .returned (.int .i64 (ringTotal r now true)) ∧ Below w.heap.size w w' := by
  obtain ⟨A1, c1, rfl, -⟩ := h1.form
  obtain ⟨A2, c2, rfl, -⟩ := h2.form
  have HT := Lib.hid (fun W (hW : Below w.heap.size w W) => specTotal_any hi _ _ r now true W (h1.below hW hh) (h2.below hW hh) (Nat.le_trans hh hW.size) hc hs)
  clear h1 h2
  generalize ringTotal r now true = x at HT ⊢
  obtain ⟨sp, hd, cs, ss⟩ := r
  simp only at HT hc hs ⊢
  have HB0 : Hid (Below w.heap.size w (w.alloc (.cells #[.int .i64 sp, .int .i64 hd, .slice A1 cs.length c1, .slice A2 ss.length c2] 26))) := Lib.hid ((Below.refl _ _).alloc (Nat.le_refl _) _)
  go_enter Tryz.func173, Tryz.ntmps173
  go_wp2_with fail
  refine (HT.out _ HB0.out).mono ?_
  rintro e w1 ⟨rfl, hb⟩
  go_wp2
  go_ret
  exact ⟨rfl, HB0.out.trans (hb.mono (by simp))⟩
end Go.Proofs.YtnmijppppcgobaaGreatDoor
set_option linter.unusedVariables false
namespace Go.Proofs.YtnmijppppcgobaaGreatDoor
open Go.ChangeShapes Go.WideShapes Go.ChangeAt Go.RowKit

set_option maxRecDepth 100000 in
set_option maxHeartbeats 4000000 in
theorem specForm_any (hi : Nat) (vh vc vs vl : Value) (a : AcctD) (s : ByteArray) (now : Int) (w : World) (hz : acctSmall 1048576 a) (hbig : acctBig a) (hsz : s.size ≤ maxLen) (h : AcctR.rd hi w (aCells a vh vc vs vl) a) (hh : hi ≤ w.heap.size) :
    Calls Tryz.prog 89 #[.agg #[.string (aId a), .int .i64 (aLim a), .int .i64 (aPos a), .int .i64 (aMost a), .int .i64 (aSum a), vh, .int .i64 (aR a).1, .int .i64 (aR a).2.1, vc, vs, vl], .string s, .int .i64 now] w fun e w' => e = .returned (.bool (formB a s now)) ∧ Below w.heap.size w w' := by
  have HOK := Lib.hid (fun W (hW : Below w.heap.size w W) => specAcctOk_any hi vh vc vs vl a W hz hbig (Rep.below (R := AcctR) h hW hh) (Nat.le_trans hh hW.size))
  have HTM := Lib.hid (fun W => specTime_any now W)
  have HID := Lib.hid (fun W => specHoldIdOk_any s W hsz)
  have HF : Hid (formB a s now = (acctOk a && (timeB now && idOk s))) := Lib.hid rfl
  rw [HF.out]
  obtain ⟨vh0, vc0, vs0, vl0, hcs, r1, r2, r3, r4⟩ := acct_rd h
  simp only [aCells, List.cons.injEq, and_true, true_and] at hcs
  obtain ⟨rfl, rfl, rfl, rfl⟩ := hcs
  obtain ⟨AH, cH, rfl, -⟩ := Rep.slice_form r1
  obtain ⟨AL, cL, rfl, -⟩ := Rep.slice_form r4
  obtain ⟨AC, cC, rfl, -⟩ := r2.form
  obtain ⟨AS, cS, rfl, -⟩ := r3.form
  clear h r1 r2 r3 r4 hz hbig hsz HF
  generalize acctOk a = ok at HOK ⊢
  generalize timeB now = tm at HTM ⊢
  generalize idOk s = io at HID ⊢
  obtain ⟨id, lim, pos, most, sum, hs, ⟨sp, hd, cs, ss⟩, sl⟩ := a
  simp only [aId, aLim, aPos, aMost, aSum, aH, aS] at HOK ⊢
  go_enter Tryz.func89, Tryz.ntmps89
  go_upto_region 1 with fail
  obtain ⟨W, hW⟩ : ∃ W, W = w.alloc (.cells #[.string id, .int .i64 lim, .int .i64 pos, .int .i64 most, .int .i64 sum, .slice AH hs.length cH, .int .i64 sp, .int .i64 hd, .slice AC cs.length cC, .slice AS ss.length cS, .slice AL sl.length cL] 29) := ⟨_, rfl⟩
  have bb : bk W w.heap.size 29 [.string id, .int .i64 lim, .int .i64 pos, .int .i64 most, .int .i64 sum, .slice AH hs.length cH, .int .i64 sp, .int .i64 hd, .slice AC cs.length cC, .slice AS ss.length cS, .slice AL sl.length cL] := by rw [hW]; exact bk.new w _ _
  have HBW : Hid (Below w.heap.size w W) := Lib.hid (by rw [hW]; exact (Below.refl _ _).alloc (Nat.le_refl _) _)
  rw [← hW]
  clear hW
  have z0 := bb.lt
  obtain ⟨⟨p0, p1, p2, p3, p4, p5, p6, p7, p8, p9, p10⟩, -⟩ := bb.eleven
  clear bb
  go_wp2_with fail
  refine (HOK.out W HBW.out).mono ?_
  rintro e w1 ⟨rfl, hb1⟩
  have z1 := hb1.size
  have HB1 : Hid (Below w.heap.size w w1) := Lib.hid (HBW.out.trans (hb1.mono (by omega)))
  clear hb1 p0 p1 p2 p3 p4 p5 p6 p7 p8 p9 p10 HOK HBW
  cases ok
  · go_wp2
    go_ret
    exact ⟨rfl, HB1.out⟩
  go_wp2_with fail
  refine (HTM.out w1).mono ?_
  rintro e w2 ⟨rfl, rfl⟩
  cases tm
  · go_wp2
    go_ret
    exact ⟨rfl, HB1.out⟩
  go_wp2_with fail
  refine (HID.out w1).mono ?_
  rintro e w2 ⟨rfl, rfl⟩
  go_wp2
  go_ret
  exact ⟨by cases io <;> rfl, HB1.out⟩
set_option maxRecDepth 100000 in
set_option maxHeartbeats 4000000 in
theorem specFits_any (hi : Nat) (vh vc vs vl : Value) (a : AcctD) (n now : Int) (w : World) (hz : acctSmall 1048576 a) (hbig : acctBig a) (h : AcctR.rd hi w (aCells a vh vc vs vl) a) (hh : hi ≤ w.heap.size) :
    Calls Tryz.prog 91 #[.agg #[.string (aId a), .int .i64 (aLim a), .int .i64 (aPos a), .int .i64 (aMost a), .int .i64 (aSum a), vh, .int .i64 (aR a).1, .int .i64 (aR a).2.1, vc, vs, vl], .int .i64 n, .int .i64 now] w fun e w' => e = .returned (.int .i64 (fitsV a n now)) ∧ Below w.heap.size w w' := by
  have HRM := Lib.hid (fun W (hW : Below w.heap.size w W) => specRoom_any hi vh vc vs vl a now W hz hbig (Rep.below (R := AcctR) h hW hh) (Nat.le_trans hh hW.size))
  obtain ⟨vh0, vc0, vs0, vl0, hcs, r1, r2, r3, r4⟩ := acct_rd h
  simp only [aCells, List.cons.injEq, and_true, true_and] at hcs
  obtain ⟨rfl, rfl, rfl, rfl⟩ := hcs
  have HCT := Lib.hid (fun W (hW : Below w.heap.size w W) => specCount_any hi vc vs (aR a) now W (r2.below hW hh) (r3.below hW hh) (Nat.le_trans hh hW.size) hz.c hz.s)
  have HSM := Lib.hid (fun W (hW : Below w.heap.size w W) => specSum_any hi vc vs (aR a) now W (r2.below hW hh) (r3.below hW hh) (Nat.le_trans hh hW.size) hz.c hz.s)
  have HST := Lib.hid (fun (x y : Int) W => specSat_any x y W)
  have HF : Hid (fitsV a n now = if roomOf a now < n then 7 else if aMost a < satVal (ringTotal (aR a) now false) 1 then 8 else if aSum a < satVal (ringTotal (aR a) now true) n then 9 else 0) := Lib.hid rfl
  obtain ⟨AH, cH, rfl, -⟩ := Rep.slice_form r1
  obtain ⟨AL, cL, rfl, -⟩ := Rep.slice_form r4
  obtain ⟨AC, cC, rfl, -⟩ := r2.form
  obtain ⟨AS, cS, rfl, -⟩ := r3.form
  clear h r1 r2 r3 r4 hz hbig
  generalize fitsV a n now = fv at HF ⊢
  generalize roomOf a now = rm at HRM HF
  generalize ringTotal (aR a) now false = tc at HCT HF
  generalize ringTotal (aR a) now true = ts at HSM HF
  obtain ⟨id, lim, pos, most, sum, hs, ⟨sp, hd, cs, ss⟩, sl⟩ := a
  simp only [aId, aLim, aPos, aMost, aSum, aH, aS] at HRM HCT HSM HF ⊢
  go_enter Tryz.func91, Tryz.ntmps91
  go_upto_region 1 with fail
  obtain ⟨W, hW⟩ : ∃ W, W = w.alloc (.cells #[.string id, .int .i64 lim, .int .i64 pos, .int .i64 most, .int .i64 sum, .slice AH hs.length cH, .int .i64 sp, .int .i64 hd, .slice AC cs.length cC, .slice AS ss.length cS, .slice AL sl.length cL] 29) := ⟨_, rfl⟩
  have bb : bk W w.heap.size 29 [.string id, .int .i64 lim, .int .i64 pos, .int .i64 most, .int .i64 sum, .slice AH hs.length cH, .int .i64 sp, .int .i64 hd, .slice AC cs.length cC, .slice AS ss.length cS, .slice AL sl.length cL] := by rw [hW]; exact bk.new w _ _
  have HBW : Hid (Below w.heap.size w W) := Lib.hid (by rw [hW]; exact (Below.refl _ _).alloc (Nat.le_refl _) _)
  rw [← hW]
  clear hW
  have z0 := bb.lt
  have B0 := Lib.hid bb
  obtain ⟨⟨p0, p1, p2, p3, p4, p5, p6, p7, p8, p9, p10⟩, -⟩ := bb.eleven
  clear bb
  go_wp2_with fail
  refine (HRM.out W HBW.out).mono ?_
  rintro e w1 ⟨rfl, hb1⟩
  have z1 := hb1.size
  have HB1 : Hid (Below w.heap.size w w1) := Lib.hid (HBW.out.trans (hb1.mono (by omega)))
  have B1 := Lib.hid (B0.out.below hb1 z0)
  clear hb1 p0 p1 p2 p3 p4 p5 p6 p7 p8 p9 p10 HRM HBW B0
  by_cases c1 : rm < n
  · have HV : Hid (fv = 7) := Lib.hid (by rw [HF.out, if_pos c1])
    go_wp2
    go_ret
    exact ⟨ret_int HV.out.symm, HB1.out⟩
  replace HF := Lib.hid (HF.out.trans (if_neg c1))
  obtain ⟨⟨p0, p1, p2, p3, p4, p5, p6, p7, p8, p9, p10⟩, -⟩ := B1.out.eleven
  have P3 := Lib.hid p3
  have P6 := Lib.hid p6
  have P7 := Lib.hid p7
  have P8 := Lib.hid p8
  have P9 := Lib.hid p9
  clear p0 p1 p2 p3 p4 p5 p6 p7 p8 p9 p10
  go_upto_region 3 with fail
  have HX : Hid (Ext w1 w1.drew) := Lib.hid (Ext.refl w1).drew
  have HBX : Hid (∀ V, Ext w1 V → Below w.heap.size w V) := Lib.hid fun V hV => HB1.out.trans (hV.below.mono (by omega))
  refine quiet_region (C := Ext w1) (by kernel_rfl) (by kernel_rfl) HX.out ?_
  repeat (first
    | go_big_quiet_skip
    | (go_big_quiet_want; go_big_quiet_op; go_big_quiet_on)
    | (go_big_quiet_want; go_big_quiet_op; apply Exists.intro; refine ⟨fun _ _ => rfl, ?_⟩; go_big_quiet_on)
    | (go_big_quiet_want
       apply Exists.intro
       refine ⟨fun V hV => ?_, ?_⟩
       (have p3 := hV.cell P3.out (by omega)
        have p6 := hV.cell P6.out (by omega)
        have p7 := hV.cell P7.out (by omega)
        have p8 := hV.cell P8.out (by omega)
        have p9 := hV.cell P9.out (by omega)
        unfold Oper.quietAt
        go_simp
        rfl)
       simp only [Act.put, List.setIfInBounds_toArray, List.set_cons_zero, List.set_cons_succ]
       go_big_quiet_on)
    | (go_big_quiet_want
       apply Exists.intro
       refine ⟨fun V hV => ?_, ?_⟩
       (unfold Oper.quietAt
        go_simp
        go_at_call 172
        refine (HCT.out V (HBX.out V hV)).mono ?_
        rintro e w4 ⟨rfl, hb4⟩
        exact ⟨rfl, hV.step hb4⟩)
       simp only [Act.put, List.setIfInBounds_toArray, List.set_cons_zero, List.set_cons_succ]
       go_big_quiet_on)
    | (go_big_quiet_want
       apply Exists.intro
       refine ⟨fun V hV => ?_, ?_⟩
       (unfold Oper.quietAt
        go_simp
        go_at_call 114
        refine (HST.out (tc) (1) V).mono ?_
        rintro e w4 ⟨rfl, rfl⟩
        exact ⟨rfl, hV⟩)
       simp only [Act.put, List.setIfInBounds_toArray, List.set_cons_zero, List.set_cons_succ]
       go_big_quiet_on)
    | fail)
  refine wpQuiet_nil ?_
  intro w2 hw2
  have z2 : w1.heap.size ≤ w2.heap.size := hw2.below.size
  have HB2 : Hid (Below w.heap.size w w2) := Lib.hid (HB1.out.trans (hw2.below.mono (by omega)))
  have B2 := Lib.hid (B1.out.below hw2.below (by omega))
  clear hw2 HX HBX P3 P6 P7 P8 P9 B1 HB1 HCT
  by_cases c2 : most < satVal tc 1
  · have HV : Hid (fv = 8) := Lib.hid (by rw [HF.out, if_pos c2])
    go_wp2
    go_ret
    exact ⟨ret_int HV.out.symm, HB2.out⟩
  replace HF := Lib.hid (HF.out.trans (if_neg c2))
  obtain ⟨⟨p0, p1, p2, p3, p4, p5, p6, p7, p8, p9, p10⟩, -⟩ := B2.out.eleven
  have P4 := Lib.hid p4
  have P6 := Lib.hid p6
  have P7 := Lib.hid p7
  have P8 := Lib.hid p8
  have P9 := Lib.hid p9
  clear p0 p1 p2 p3 p4 p5 p6 p7 p8 p9 p10
  go_upto_region 5 with fail
  have HX : Hid (Ext w2 w2.drew) := Lib.hid (Ext.refl w2).drew
  have HBX : Hid (∀ V, Ext w2 V → Below w.heap.size w V) := Lib.hid fun V hV => HB2.out.trans (hV.below.mono (by omega))
  refine quiet_region (C := Ext w2) (by kernel_rfl) (by kernel_rfl) HX.out ?_
  repeat (first
    | go_big_quiet_skip
    | (go_big_quiet_want; go_big_quiet_op; go_big_quiet_on)
    | (go_big_quiet_want; go_big_quiet_op; apply Exists.intro; refine ⟨fun _ _ => rfl, ?_⟩; go_big_quiet_on)
    | (go_big_quiet_want
       apply Exists.intro
       refine ⟨fun V hV => ?_, ?_⟩
       (have p4 := hV.cell P4.out (by omega)
        have p6 := hV.cell P6.out (by omega)
        have p7 := hV.cell P7.out (by omega)
        have p8 := hV.cell P8.out (by omega)
        have p9 := hV.cell P9.out (by omega)
        unfold Oper.quietAt
        go_simp
        rfl)
       simp only [Act.put, List.setIfInBounds_toArray, List.set_cons_zero, List.set_cons_succ]
       go_big_quiet_on)
    | (go_big_quiet_want
       apply Exists.intro
       refine ⟨fun V hV => ?_, ?_⟩
       (unfold Oper.quietAt
        go_simp
        go_at_call 173
        refine (HSM.out V (HBX.out V hV)).mono ?_
        rintro e w4 ⟨rfl, hb4⟩
        exact ⟨rfl, hV.step hb4⟩)
       simp only [Act.put, List.setIfInBounds_toArray, List.set_cons_zero, List.set_cons_succ]
       go_big_quiet_on)
    | (go_big_quiet_want
       apply Exists.intro
       refine ⟨fun V hV => ?_, ?_⟩
       (unfold Oper.quietAt
        go_simp
        go_at_call 114
        refine (HST.out (ts) (n) V).mono ?_
        rintro e w4 ⟨rfl, rfl⟩
        exact ⟨rfl, hV⟩)
       simp only [Act.put, List.setIfInBounds_toArray, List.set_cons_zero, List.set_cons_succ]
       go_big_quiet_on)
    | fail)
  refine wpQuiet_nil ?_
  intro w3 hw3
  have z3 : w2.heap.size ≤ w3.heap.size := hw3.below.size
  have HB3 : Hid (Below w.heap.size w w3) := Lib.hid (HB2.out.trans (hw3.below.mono (by omega)))
  clear hw3 HX HBX P4 P6 P7 P8 P9 B2 HB2 HSM
  by_cases c3 : sum < satVal ts n
  · have HV : Hid (fv = 9) := Lib.hid (by rw [HF.out, if_pos c3])
    go_wp2
    go_ret
    exact ⟨ret_int HV.out.symm, HB3.out⟩
  · have HV : Hid (fv = 0) := Lib.hid (by rw [HF.out, if_neg c3])
    go_wp2
    go_ret
    exact ⟨ret_int HV.out.symm, HB3.out⟩
end Go.Proofs.YtnmijppppcgobaaGreatDoor
