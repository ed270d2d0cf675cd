/- fieldAt finds the row of a field; FieldKind and FieldSize of the program; no conditions. -/
import Derived.Test.YtdjlhijaadombaaDoorTabs
set_option linter.unusedVariables false
namespace Go.Proofs.YtdjlhijaadombaaDoor
open Go.ChangeShapes Go.WideShapes Go.ChangeAt Go.RowKit

set_option maxRecDepth 100000 in
theorem known_iff : ∀ k, k < 16 → fKind (fNos.getD k 0) ≠ 0 := by decide +kernel
set_option maxRecDepth 100000 in
theorem not_known (no : Int) (h : ∀ j, j < 16 → fNos.getD j 0 ≠ no) : fKind no = 0 := by
  have h0 := h 0 (by omega); have h1 := h 1 (by omega); have h2 := h 2 (by omega); have h3 := h 3 (by omega); have h4 := h 4 (by omega); have h5 := h 5 (by omega); have h6 := h 6 (by omega); have h7 := h 7 (by omega)
  have h8 := h 8 (by omega); have h9 := h 9 (by omega); have h10 := h 10 (by omega); have h11 := h 11 (by omega); have h12 := h 12 (by omega); have h13 := h 13 (by omega); have h14 := h 14 (by omega); have h15 := h 15 (by omega)
  simp only [fNos, List.getD_cons_zero, List.getD_cons_succ] at *
  unfold fKind
  rw [if_neg (by omega), if_neg (by omega), if_neg (by omega), if_neg (by omega), if_neg (by omega)]

set_option maxRecDepth 100000 in
set_option maxHeartbeats 4000000 in
theorem fieldAt_any (no : Int) (w : World) :
    Calls Tryd.prog 35 #[.int .i64 no] w fun e w' => e = .returned (rowV no) ∧ Below w.heap.size w w' := by
  go_enter Tryd.func35, Tryd.ntmps35
  go_wp2_with fail
  refine (fieldTable_any _).mono ?_
  rintro e w1 ⟨b, rfl, hb0, hb1, hT, hB⟩
  have h1 := bk.new w 57 [.int .i64 0, .int .i64 0, .int .i64 0, .nilFunc, .nilFunc]
  have h2 := h1.below hB h1.lt
  have hz : w.heap.size + 1 ≤ b := by simpa using hb0
  have hBB : Below w.heap.size w w1 := ((Below.refl _ _).alloc (Nat.le_refl _) _).trans (hB.mono (by simp))
  have HT : Hid (bk w1 b 57 fTab) := Lib.hid hT
  have HR := Lib.hid h2
  have HB := Lib.hid hBB
  clear hT hB h1 h2 hBB hb0
  go_wp2
  go_loopw [7] (fun iv wr => ∃ k : Nat, k ≤ 16 ∧ iv = .int .i64 k ∧ Hid (∀ j, j < k → fNos.getD j 0 ≠ no) ∧ Hid (bk wr b 57 fTab) ∧ Hid (bk wr w.heap.size 57 [.int .i64 0, .int .i64 0, .int .i64 0, .nilFunc, .nilFunc]) ∧ Hid (Below w.heap.size w wr)) (fun iv _ => 16 - (intOf iv).toNat)
  case atStart => exact ⟨0, by omega, rfl, Lib.hid (fun j hj => by omega), HT, HR, HB⟩
  case round =>
    obtain ⟨k, hk, rfl, hN, hT, hR, hW⟩ := hrel
    by_cases hlt : k < 16
    · have c0 := (hT.out.cell (k * 5)).trans (tab_cells k hlt 0 (by omega))
      have c1 := (hT.out.cell (k * 5 + 1)).trans (tab_cells k hlt 1 (by omega))
      have c2 := (hT.out.cell (k * 5 + 2)).trans (tab_cells k hlt 2 (by omega))
      have c3 := (hT.out.cell (k * 5 + 3)).trans (tab_cells k hlt 3 (by omega))
      have c4 := (hT.out.cell (k * 5 + 4)).trans (tab_cells k hlt 4 (by omega))
      simp only [rowCells, List.getElem?_cons_zero, List.getElem?_cons_succ] at c0 c1 c2 c3 c4
      have HE : Hid (fKind (fNos.getD k 0) ≠ 0) := Lib.hid (known_iff k hlt)
      generalize hn : fNos.getD k 0 = n at c0 c1 c2 c3 c4 HE
      have HNn := Lib.hid hn
      clear hn
      generalize hs : fSize n = sz at c0 c1 c2 c3 c4
      generalize hkd : fKind n = kd at c0 c1 c2 c3 c4
      generalize hpi : putId kd = pi at c0 c1 c2 c3 c4
      generalize hgi : getId kd = gi at c0 c1 c2 c3 c4
      have HV : Hid (sz = fSize n ∧ kd = fKind n ∧ pi = putId kd ∧ gi = getId kd) := Lib.hid ⟨hs.symm, hkd.symm, hpi.symm, hgi.symm⟩
      clear hs hkd hpi hgi
      have hsz := hR.out.lt
      have r0 := hR.out.cell 0
      have r1 := hR.out.cell 1
      have r2 := hR.out.cell 2
      have r3 := hR.out.cell 3
      have r4 := hR.out.cell 4
      have f0 := hR.out.frozen 0
      have f1 := hR.out.frozen 1
      have f2 := hR.out.frozen 2
      have f3 := hR.out.frozen 3
      have f4 := hR.out.frozen 4
      simp only [List.getElem?_cons_zero, List.getElem?_cons_succ] at r0 r1 r2 r3 r4
      by_cases he : n = no
      · subst he
        go_wp2
        have hb' := ((((((hR.out.set 0 (.int .i64 n)).set 1 (.int .i64 sz)).set 2 (.int .i64 kd)).set 3 (.func (.func pi) #[] #[])).set 4 (.func (.func gi) #[] #[])).alloc (.cells #[.int .i64 n, .int .i64 sz, .int .i64 kd, .func (.func pi) #[] #[], .func (.func gi) #[] #[]] 57))
        have k0 := hb'.cell 0
        have k1 := hb'.cell 1
        have k2 := hb'.cell 2
        have k3 := hb'.cell 3
        have k4 := hb'.cell 4
        simp only [List.set_cons_zero, List.set_cons_succ, List.getElem?_cons_zero, List.getElem?_cons_succ] at k0 k1 k2 k3 k4
        refine bodyPost_ret (v := .agg #[.int .i64 n, .int .i64 sz, .int .i64 kd, .func (.func pi) #[] #[], .func (.func gi) #[] #[]]) (by simp [results, Tryd.results35, go_sem, k0, k1, k2, k3, k4]) rfl ⟨?_, ?_⟩
        · obtain ⟨rfl, rfl, rfl, rfl⟩ := HV.out
          unfold rowV
          rw [if_neg HE.out]
          simp only [rowCells]
        · refine below_new (below_set (below_set (below_set (below_set (below_set hW.out (Nat.le_refl _)) (Nat.le_refl _)) (Nat.le_refl _)) (Nat.le_refl _)) (Nat.le_refl _)) (by simp; omega)
      · have he' : (n == no) = false := beq_eq_false_iff_ne.2 he
        have HNE := Lib.hid he
        go_wp2
        go_roundw
        case rel =>
          refine ⟨k + 1, by omega, by go_num, Lib.hid (fun j hj => ?_), Lib.hid (hT.out.alloc _), Lib.hid (hR.out.alloc _), Lib.hid (hW.out.alloc (by omega) _)⟩
          by_cases e : j = k
          · subst e; rw [HNn.out]; exact HNE.out
          · exact hN.out j (by omega)
        case measure => simp [intOf] <;> omega
    · obtain rfl : k = 16 := by omega
      have HK : Hid (fKind no = 0) := Lib.hid (not_known no hN.out)
      have r0 := hR.out.cell 0
      have r1 := hR.out.cell 1
      have r2 := hR.out.cell 2
      have r3 := hR.out.cell 3
      have r4 := hR.out.cell 4
      have f0 := hR.out.frozen 0
      have f1 := hR.out.frozen 1
      have f2 := hR.out.frozen 2
      have f3 := hR.out.frozen 3
      have f4 := hR.out.frozen 4
      simp only [List.getElem?_cons_zero, List.getElem?_cons_succ] at r0 r1 r2 r3 r4
      go_wp2
      have hb' := (((((hR.out.set 0 (.int .i64 0)).set 1 (.int .i64 0)).set 2 (.int .i64 0)).set 3 .nilFunc).set 4 .nilFunc)
      have k0 := hb'.cell 0
      have k1 := hb'.cell 1
      have k2 := hb'.cell 2
      have k3 := hb'.cell 3
      have k4 := hb'.cell 4
      simp only [List.set_cons_zero, List.set_cons_succ, List.getElem?_cons_zero, List.getElem?_cons_succ] at k0 k1 k2 k3 k4
      refine bodyPost_ret (v := .agg #[.int .i64 0, .int .i64 0, .int .i64 0, .nilFunc, .nilFunc]) (by simp [results, Tryd.results35, go_sem, k0, k1, k2, k3, k4]) rfl ⟨?_, ?_⟩
      · unfold rowV
        rw [if_pos HK.out]
      · refine below_set (below_set (below_set (below_set (below_set hW.out (Nat.le_refl _)) (Nat.le_refl _)) (Nat.le_refl _)) (Nat.le_refl _)) (Nat.le_refl _)
end Go.Proofs.YtdjlhijaadombaaDoor
