/- ReqOf of the reference, by the operation's class; no conditions. -/
import Derived.Test.YtmojpiofdfmdgabGreatDoorMrgReqW
import Derived.Test.YtmojpiofdfmdgabGreatDoorMrgReqV
import Derived.Test.YtmojpiofdfmdgabGreatDoorMrgStore8
import Derived.Test.YtmojpiofdfmdgabGreatDoorMrg2
import Derived.Deep.RegionHeld3
import Derived.Deep.DeepCutAuto
set_option linter.unusedVariables false
namespace Go.Proofs.YtmojpiofdfmdgabGreatDoor
open Go.ChangeShapes Go.WideShapes Go.ChangeAt Go.RowKit

def qRes (r : ReqD × Int) : Value := .tuple #[qV r.1, .int .i64 r.2]
set_option maxRecDepth 100000 in
theorem below_drew2 (w : World) (o : Obj) : Below w.heap.size w (w.alloc o).drew := ((Below.refl _ _).alloc (Nat.le_refl _) o).drew
set_option maxRecDepth 100000 in
theorem below_alq {W V : World} (h : Below W.heap.size W V) (o : Obj) : Below W.heap.size W (V.alloc o) := h.alloc h.size o
/-- a request in a block of its own, behind W -/
def newQ (W : World) (cs : List Value) (tv : Value) (wx : World) : Prop := ∃ b : Nat, tv = .pointer (some ⟨b, 0, none⟩) ∧ W.heap.size ≤ b ∧ bk wx b 27 cs ∧ Below W.heap.size W wx
set_option maxRecDepth 100000 in
theorem below_set8 {W V : World} (h : Below W.heap.size W V) (a0 a1 a2 a3 a4 a5 a6 a7 : Value) : Below W.heap.size W ((((((((V.setCell ⟨W.heap.size, 0, none⟩ a0).setCell ⟨W.heap.size, 1, none⟩ a1).setCell ⟨W.heap.size, 2, none⟩ a2).setCell ⟨W.heap.size, 3, none⟩ a3).setCell ⟨W.heap.size, 4, none⟩ a4).setCell ⟨W.heap.size, 5, none⟩ a5).setCell ⟨W.heap.size, 6, none⟩ a6).setCell ⟨W.heap.size, 7, none⟩ a7) :=
  h.trans ((set8_turned V W.heap.size a0 a1 a2 a3 a4 a5 a6 a7).below (B := W.heap.size) (Nat.le_refl _) h.size)
set_option maxRecDepth 100000 in
theorem newQ.mkA {W wC : World} (eC : Below W.heap.size W wC) (cs : List Value) : newQ W cs (.pointer (some ⟨wC.heap.size, 0, none⟩)) (wC.alloc (.cells cs.toArray 27)) :=
  ⟨wC.heap.size, rfl, eC.size, bk.new wC _ cs, eC.alloc eC.size _⟩
set_option maxRecDepth 100000 in
theorem newQ.mkB {W wC : World} {o0 o1 o2 o3 o4 o5 o6 o7 : Value} (h : bk wC W.heap.size 27 [o0, o1, o2, o3, o4, o5, o6, o7]) (eC : Below W.heap.size W wC) (a0 a1 a2 a3 a4 a5 a6 a7 : Value) :
    newQ W [a0, a1, a2, a3, a4, a5, a6, a7] (.pointer (some ⟨W.heap.size, 0, none⟩)) ((((((((wC.setCell ⟨W.heap.size, 0, none⟩ a0).setCell ⟨W.heap.size, 1, none⟩ a1).setCell ⟨W.heap.size, 2, none⟩ a2).setCell ⟨W.heap.size, 3, none⟩ a3).setCell ⟨W.heap.size, 4, none⟩ a4).setCell ⟨W.heap.size, 5, none⟩ a5).setCell ⟨W.heap.size, 6, none⟩ a6).setCell ⟨W.heap.size, 7, none⟩ a7) :=
  ⟨W.heap.size, rfl, Nat.le_refl _, set8_bk h a0 a1 a2 a3 a4 a5 a6 a7, eC.trans ((set8_turned wC W.heap.size a0 a1 a2 a3 a4 a5 a6 a7).below (B := W.heap.size) (Nat.le_refl _) eC.size)⟩
set_option maxRecDepth 100000 in
theorem bare_le (s : ByteArray) : (bareS s).size ≤ s.size := by
  unfold bareS
  rw [ByteArray.size_extract]
  omega

set_option maxRecDepth 100000 in
set_option maxHeartbeats 16000000 in
theorem specReqOf_early (hi : Nat) (v : Value) (m : MsgD) (w : World) (hn : m.2.length ≤ 1048576) (h : FieldsR.rd hi w [v] m.2) (hh : hi ≤ w.heap.size) (hsm : m.1.size ≤ maxLen) (hs : ∀ x ∈ m.2, x.2.size ≤ 1048576) (hno : ¬ (msgOk m = true ∧ mtiKn m.1 = true ∧ fldHas m.2 3 = true)) :
    Calls Tryz.prog 6 #[.agg #[.string m.1, v]] w fun e w' => e = .returned (qRes (reqL m)) ∧ Below w.heap.size w w' := by
  obtain ⟨A, c, rfl, hc, h'⟩ := fields_rd h
  have hs' : ∀ x ∈ m.2, x.2.size ≤ maxLen := fun x hx => Nat.le_trans (hs x hx) (by unfold maxLen; omega)
  have HMO := Lib.hid (fun V (hV : Below w.heap.size w V) => specMsgOk_any hi (.slice A m.2.length c) m V hsm hn hs' (Rep.below (R := FieldsR) h hV hh) (Nat.le_trans hh hV.size))
  have HMK := Lib.hid (specMtiKnown_any m.1)
  have HF3 := Lib.hid (fun V (hV : Below w.heap.size w V) => specFieldOf_any hi (.slice A m.2.length c) m 3 V hn (Rep.below (R := FieldsR) h hV hh) (Nat.le_trans hh hV.size))
  have HR : Hid (reqL m = (noQ, if msgOk m = true ∧ mtiKn m.1 = false then 2 else 1)) := Lib.hid (by
    unfold reqL
    cases h1 : msgOk m
    · simp
    cases h2 : mtiKn m.1
    · simp
    cases h3 : fldHas m.2 3
    · simp
    exact absurd ⟨h1, h2, h3⟩ hno)
  clear h h' hn hh hsm hs hs' hc
  generalize reqL m = r at HR ⊢
  generalize fldTxt m.2 3 = f3 at HF3
  generalize fldHas m.2 3 = t3 at HF3 hno
  generalize msgOk m = t1 at HMO HR hno
  generalize m.2.length = n at HMO HF3
  generalize m.1 = a at HMO HMK HF3 HR hno
  generalize mtiKn a = t2 at HMK HR hno
  go_enter Tryz.func6, Tryz.ntmps6
  go_upto_region 1 with fail
  obtain ⟨w0, hW⟩ : ∃ W, W = (w.alloc (.cells #[.string a, .slice A n c] 32)).alloc (.cells #[.int .i64 0, .string ⟨#[]⟩, .string ⟨#[]⟩, .string ⟨#[]⟩, .string ⟨#[]⟩, .string ⟨#[]⟩, .int .i64 0, .int .i64 0] 27) := ⟨_, rfl⟩
  have b0 : bk w0 w.heap.size 32 [.string a, .slice A n c] := by rw [hW]; exact (bk.new w _ _).alloc _
  have b1 : bk w0 (w.heap.size + 1) 27 [.int .i64 0, .string ⟨#[]⟩, .string ⟨#[]⟩, .string ⟨#[]⟩, .string ⟨#[]⟩, .string ⟨#[]⟩, .int .i64 0, .int .i64 0] := by rw [hW]; have h0 := bk.new (w.alloc (.cells #[.string a, .slice A n c] 32)) 27 [.int .i64 0, .string ⟨#[]⟩, .string ⟨#[]⟩, .string ⟨#[]⟩, .string ⟨#[]⟩, .string ⟨#[]⟩, .int .i64 0, .int .i64 0]; simpa using h0
  have HB : Hid (Below w.heap.size w w0) := Lib.hid (by rw [hW]; exact ((Below.refl _ _).alloc (Nat.le_refl _) _).alloc (by simp) _)
  have z0 : w.heap.size + 2 ≤ w0.heap.size := by rw [hW]; simp
  rw [← hW]
  clear hW
  have B0 := Lib.hid b0
  have B1 := Lib.hid b1
  clear b0 b1
  have b00 := B0.out.cell 0
  have b01 := B0.out.cell 1
  go_wp2_with fail
  refine (HMO.out w0 HB.out).mono ?_
  rintro e w1 ⟨rfl, hb⟩
  have z1 := hb.size
  have B0 := Lib.hid (B0.out.below hb (by omega))
  have B1 := Lib.hid (B1.out.below hb (by omega))
  have HB : Hid (Below w.heap.size w w1) := Lib.hid (HB.out.trans (hb.mono (by omega)))
  clear b00 b01 hb
  cases t1
  · have HTZ := Lib.hid (there8 B1.out)
    go_wp2_with (first | (refine wpList_store_mid rfl 27 _ _ rfl (w.heap.size + 1) 0 #[.int .i64 0, .string ⟨#[]⟩, .string ⟨#[]⟩, .string ⟨#[]⟩, .string ⟨#[]⟩, .string ⟨#[]⟩, .int .i64 0, .int .i64 0] rfl rfl HTZ.out sizeReq (one8 ..) ?_; generalize hVZ : World.setCells _ _ _ _ = VZ))
    have bVZ : bk VZ (w.heap.size + 1) 27 [.int .i64 0, .string ⟨#[]⟩, .string ⟨#[]⟩, .string ⟨#[]⟩, .string ⟨#[]⟩, .string ⟨#[]⟩, .int .i64 0, .int .i64 0] := by rw [← hVZ]; exact set8_bk B1.out (.int .i64 0) (.string ⟨#[]⟩) (.string ⟨#[]⟩) (.string ⟨#[]⟩) (.string ⟨#[]⟩) (.string ⟨#[]⟩) (.int .i64 0) (.int .i64 0)
    have tVZ : Turned (w.heap.size + 1) (w.heap.size + 1 + 1) w1 VZ := by rw [← hVZ]; exact set8_turned w1 (w.heap.size + 1) (.int .i64 0) (.string ⟨#[]⟩) (.string ⟨#[]⟩) (.string ⟨#[]⟩) (.string ⟨#[]⟩) (.string ⟨#[]⟩) (.int .i64 0) (.int .i64 0)
    have HBZ : Hid (Below w.heap.size w VZ) := Lib.hid (HB.out.trans (tVZ.below (B := w.heap.size) (by omega) (by omega)))
    obtain ⟨⟨y0, y1, y2, y3, y4, y5, y6, y7⟩, -⟩ := bVZ.eight
    have hr := HR.out
    exact bodyPost_ret (v := .tuple #[.agg #[.int .i64 0, .string ⟨#[]⟩, .string ⟨#[]⟩, .string ⟨#[]⟩, .string ⟨#[]⟩, .string ⟨#[]⟩, .int .i64 0, .int .i64 0], .int .i64 1]) (by simp [results, Tryz.results6, go_sem, y0, y1, y2, y3, y4, y5, y6, y7]) rfl ⟨by rw [hr]; rfl, HBZ.out⟩
  have b00 := B0.out.cell 0
  go_wp2_with fail
  refine (HMK.out w1).mono ?_
  rintro e wx ⟨rfl, rfl⟩
  clear b00
  cases t2
  · have HTZ := Lib.hid (there8 B1.out)
    go_wp2_with (first | (refine wpList_store_mid rfl 27 _ _ rfl (w.heap.size + 1) 0 #[.int .i64 0, .string ⟨#[]⟩, .string ⟨#[]⟩, .string ⟨#[]⟩, .string ⟨#[]⟩, .string ⟨#[]⟩, .int .i64 0, .int .i64 0] rfl rfl HTZ.out sizeReq (one8 ..) ?_; generalize hVZ : World.setCells _ _ _ _ = VZ))
    have bVZ : bk VZ (w.heap.size + 1) 27 [.int .i64 0, .string ⟨#[]⟩, .string ⟨#[]⟩, .string ⟨#[]⟩, .string ⟨#[]⟩, .string ⟨#[]⟩, .int .i64 0, .int .i64 0] := by rw [← hVZ]; exact set8_bk B1.out (.int .i64 0) (.string ⟨#[]⟩) (.string ⟨#[]⟩) (.string ⟨#[]⟩) (.string ⟨#[]⟩) (.string ⟨#[]⟩) (.int .i64 0) (.int .i64 0)
    have tVZ : Turned (w.heap.size + 1) (w.heap.size + 1 + 1) w1 VZ := by rw [← hVZ]; exact set8_turned w1 (w.heap.size + 1) (.int .i64 0) (.string ⟨#[]⟩) (.string ⟨#[]⟩) (.string ⟨#[]⟩) (.string ⟨#[]⟩) (.string ⟨#[]⟩) (.int .i64 0) (.int .i64 0)
    have HBZ : Hid (Below w.heap.size w VZ) := Lib.hid (HB.out.trans (tVZ.below (B := w.heap.size) (by omega) (by omega)))
    obtain ⟨⟨y0, y1, y2, y3, y4, y5, y6, y7⟩, -⟩ := bVZ.eight
    have hr := HR.out
    exact bodyPost_ret (v := .tuple #[.agg #[.int .i64 0, .string ⟨#[]⟩, .string ⟨#[]⟩, .string ⟨#[]⟩, .string ⟨#[]⟩, .string ⟨#[]⟩, .int .i64 0, .int .i64 0], .int .i64 2]) (by simp [results, Tryz.results6, go_sem, y0, y1, y2, y3, y4, y5, y6, y7]) rfl ⟨by rw [hr]; rfl, HBZ.out⟩
  have b00 := B0.out.cell 0
  have b01 := B0.out.cell 1
  go_wp2_with fail
  refine (HF3.out w1 HB.out).mono ?_
  rintro e w2 ⟨rfl, hb⟩
  have z2 := hb.size
  have B0 := Lib.hid (B0.out.below hb (by omega))
  have B1 := Lib.hid (B1.out.below hb (by omega))
  have HB : Hid (Below w.heap.size w w2) := Lib.hid (HB.out.trans (hb.mono (by omega)))
  clear b00 b01 hb
  cases t3
  · have HTZ := Lib.hid (there8 B1.out)
    go_wp2_with (first | (refine wpList_store_mid rfl 27 _ _ rfl (w.heap.size + 1) 0 #[.int .i64 0, .string ⟨#[]⟩, .string ⟨#[]⟩, .string ⟨#[]⟩, .string ⟨#[]⟩, .string ⟨#[]⟩, .int .i64 0, .int .i64 0] rfl rfl HTZ.out sizeReq (one8 ..) ?_; generalize hVZ : World.setCells _ _ _ _ = VZ))
    have bVZ : bk VZ (w.heap.size + 1) 27 [.int .i64 0, .string ⟨#[]⟩, .string ⟨#[]⟩, .string ⟨#[]⟩, .string ⟨#[]⟩, .string ⟨#[]⟩, .int .i64 0, .int .i64 0] := by rw [← hVZ]; exact set8_bk B1.out (.int .i64 0) (.string ⟨#[]⟩) (.string ⟨#[]⟩) (.string ⟨#[]⟩) (.string ⟨#[]⟩) (.string ⟨#[]⟩) (.int .i64 0) (.int .i64 0)
    have tVZ : Turned (w.heap.size + 1) (w.heap.size + 1 + 1) w2 VZ := by rw [← hVZ]; exact set8_turned w2 (w.heap.size + 1) (.int .i64 0) (.string ⟨#[]⟩) (.string ⟨#[]⟩) (.string ⟨#[]⟩) (.string ⟨#[]⟩) (.string ⟨#[]⟩) (.int .i64 0) (.int .i64 0)
    have HBZ : Hid (Below w.heap.size w VZ) := Lib.hid (HB.out.trans (tVZ.below (B := w.heap.size) (by omega) (by omega)))
    obtain ⟨⟨y0, y1, y2, y3, y4, y5, y6, y7⟩, -⟩ := bVZ.eight
    have hr := HR.out
    exact bodyPost_ret (v := .tuple #[.agg #[.int .i64 0, .string ⟨#[]⟩, .string ⟨#[]⟩, .string ⟨#[]⟩, .string ⟨#[]⟩, .string ⟨#[]⟩, .int .i64 0, .int .i64 0], .int .i64 1]) (by simp [results, Tryz.results6, go_sem, y0, y1, y2, y3, y4, y5, y6, y7]) rfl ⟨by rw [hr]; rfl, HBZ.out⟩
  exact (hno (by simp)).elim

end Go.Proofs.YtmojpiofdfmdgabGreatDoor
