/- A region that draws its order, whose operations only read, and whose callees read and make memory of their own: one walk in the order of the text, over the worlds that extend a given one; no conditions. -/
import Derived.Test.YthnimmagaocipaaGreatDoorMrp1
import Derived.BigQuiet
import Derived.Test.YthnimmagaocipaaGreatDoorMrp2
import Derived.Deep.DeepCutAuto
import Derived.WalkLawsBesides
import Derived.LaidEql
import Derived.Stop.Asserts
import Derived.RowKitTokens
import Derived.Lib.ReflectliteSlice
import Derived.OneCell
import Derived.Laws.AppendOwn
import Derived.Laws.AppendOwnNone
import Derived.OwnWalk
import Derived.RegionTactic
import Derived.Deep.Cut
import Derived.Laws.CopyRow
import Derived.Laws.IdiomCopy
import Derived.Lib.Bytealg
import Derived.Lib.SliceRun
import Derived.Shelf.Abstract
set_option linter.unusedVariables false
namespace Go.Proofs.YthnimmagaocipaaGreatDoor
open Go.ChangeShapes Go.WideShapes Go.ChangeAt Go.RowKit

/-- W is w0 and more: all blocks of w0 hold what they held. -/
def Ext (w0 W : World) : Prop := Below w0.heap.size w0 W
set_option maxRecDepth 100000 in
theorem Ext.refl (w0 : World) : Ext w0 w0 := Below.refl _ _
set_option maxRecDepth 100000 in
theorem Ext.drew {w0 W : World} (h : Ext w0 W) : Ext w0 W.drew := Below.drew h
set_option maxRecDepth 100000 in
theorem Ext.below {w0 W : World} (h : Ext w0 W) : Below w0.heap.size w0 W := h
set_option maxRecDepth 100000 in
theorem Ext.step {w0 W W' : World} (h : Ext w0 W) (hb : Below W.heap.size W W') : Ext w0 W' := Below.trans h (hb.mono (Below.size h))
set_option maxRecDepth 100000 in
theorem Ext.cell {w0 W : World} (h : Ext w0 W) {b off : Nat} {v : Value} (hc : w0.cell? ⟨b, off, none⟩ = some v) (hb : b < w0.heap.size) : W.cell? ⟨b, off, none⟩ = some v := (Below.cell h hb).trans hc
set_option maxRecDepth 100000 in
theorem quiet_region {P : Program} {C : World → Prop} {id : Nat} {Q : Exit → Act → World → Prop} {a : Act} {w : World} {l : List Oper} (hm : P.follows .mixedOrders = true) (hB : Region.lexB .any l.toArray = true) (hC : C w.drew)
    (h : wpQuiet P l.toArray C (fun a' => ∀ w', C w' → Q .normal a' w') l a) : (Code.region id l.toArray true).wp P Q a w :=
  wp_region_quiet (C := C) hm hB hC (by simpa using h)
end Go.Proofs.YthnimmagaocipaaGreatDoor
set_option linter.unusedVariables false
namespace Go.Proofs.YthnimmagaocipaaGreatDoor
open Go.ChangeShapes Go.WideShapes Go.ChangeAt Go.RowKit

set_option maxRecDepth 100000 in
theorem holds_ok_not {l : List HoldD} {i : Nat} (hi : i < l.length) (h : holdAtOk l i = false) : holdsOk l = false := by
  unfold holdsOk
  have : (List.range l.length).all (holdAtOk l) = false := by
    rw [List.all_eq_false]
    exact ⟨i, List.mem_range.2 hi, by rw [h]; exact Bool.false_ne_true⟩
  rw [this]; rfl
set_option maxRecDepth 100000 in
theorem holds_ok_end {l : List HoldD} (h : (List.range l.length).all (holdAtOk l) = true) : holdsOk l = decide (l.length ≤ 4) := by
  unfold holdsOk; rw [h]; rfl
set_option maxRecDepth 100000 in
theorem range_snoc {l : List HoldD} {i : Nat} (h : (List.range i).all (holdAtOk l) = true) (h1 : holdAtOk l i = true) : (List.range (i + 1)).all (holdAtOk l) = true := by
  rw [List.range_succ, List.all_append, h]
  simp [h1]
set_option maxRecDepth 100000 in
set_option maxHeartbeats 1600000 in
theorem specHoldsOk_any (hi : Nat) (v : Value) (l : List HoldD) (w : World) (hn : l.length ≤ 1048576) (hs : ∀ x ∈ l, x.1.size ≤ maxLen) (h : HoldsR.rd hi w [v] l) (hh : hi ≤ w.heap.size) :
    Calls Tryz.prog 53 #[v] w fun e w' => e = .returned (.bool (holdsOk l)) ∧ Below w.heap.size w w' := by
  obtain ⟨A, c, rfl, hc, h⟩ := holds_rd h
  have HR := Lib.hid h
  have HS := Lib.hid hs
  clear h hs
  go_enter Tryz.func53, Tryz.ntmps53
  go_wp2
  go_loopw [7] (fun iv wr => ∃ i : Nat, i ≤ l.length ∧ iv = .int .i64 i ∧ Hid ((List.range i).all (holdAtOk l) = true) ∧ Hid (Below w.heap.size w wr) ∧ w.heap.size ≤ wr.heap.size) (fun iv _ => l.length - (intOf iv).toNat)
  case atStart => exact ⟨0, Nat.zero_le _, rfl, Lib.hid rfl, Lib.hid (Below.refl _ _), Nat.le_refl _⟩
  case round =>
    obtain ⟨i, hi', rfl, HN, HB, hz⟩ := hrel
    by_cases hin : i < l.length
    · obtain ⟨x, hx⟩ : ∃ x, l[i]? = some x := ⟨_, List.getElem?_eq_getElem hin⟩
      obtain ⟨p, hp⟩ : ∃ p, l[i - 1]? = some p := ⟨_, List.getElem?_eq_getElem (by omega : i - 1 < l.length)⟩
      have HXD : Hid (holdAtOk l i = (holdOk x && (decide (i = 0) || Op.bytesLess p.1.toList x.1.toList))) := Lib.hid (by
        unfold holdAtOk strLt
        rw [getD_of hx, getD_of hp])
      obtain ⟨b, off, rfl, hbl, c0, c1, c2⟩ := HR.out i x hx
      obtain ⟨b', off', e', -, d0, -, -⟩ := HR.out (i - 1) p hp
      simp only [Option.some.injEq, Addr.mk.injEq, and_true] at e'
      obtain ⟨rfl, rfl⟩ := e'
      have c0 := (HB.out.cell (p := ⟨b, off + i * 3, none⟩) (show b < w.heap.size by omega)).trans c0
      have c1 := (HB.out.cell (p := ⟨b, off + i * 3 + 1, none⟩) (show b < w.heap.size by omega)).trans c1
      have c2 := (HB.out.cell (p := ⟨b, off + i * 3 + 2, none⟩) (show b < w.heap.size by omega)).trans c2
      have d0 := (HB.out.cell (p := ⟨b, off + (i - 1) * 3, none⟩) (show b < w.heap.size by omega)).trans d0
      have g1 : (i : Int) < (l.length : Int) := by omega
      have g2 : 0 ≤ (i : Int) := by omega
      have hxs := HS.out x (List.mem_of_getElem? hx)
      have HOK := Lib.hid (fun W => specHoldOk_any x W hxs)
      obtain ⟨d, hd⟩ : ∃ d : Nat, d = i - 1 := ⟨_, rfl⟩
      rw [← hd] at d0
      have HDI := Lib.hid hd
      clear hx hp hd
      go_upto_region 4 with fail
      obtain ⟨W3, hW3⟩ : ∃ W3, W3 = wr.alloc (.cells #[.string x.1, .int .i64 x.2.1, .int .i64 x.2.2] 104) := ⟨_, rfl⟩
      have b3 := heap_alloc_new wr (.cells #[.string x.1, .int .i64 x.2.1, .int .i64 x.2.2] 104)
      have hb3 := (Below.refl wr.heap.size wr).alloc (Nat.le_refl _) (.cells #[.string x.1, .int .i64 x.2.1, .int .i64 x.2.2] 104)
      rw [← hW3] at b3 hb3 ⊢
      clear hW3
      have z3 : wr.heap.size < W3.heap.size := lt_of_block b3
      have HB3 : Hid (Below w.heap.size w W3) := Lib.hid (HB.out.trans (hb3.mono hz))
      have P0 := Lib.hid (cell_of_row _ _ 0 _ _ (0, 0) b3)
      have P1 := Lib.hid (cell_of_row _ _ 1 _ _ (0, 0) b3)
      have P2 := Lib.hid (cell_of_row _ _ 2 _ _ (0, 0) b3)
      simp only [List.getElem?_toArray, List.getElem?_cons_zero, List.getElem?_cons_succ] at P0 P1 P2
      have D0 := Lib.hid ((hb3.cell (p := ⟨b, off + d * 3, none⟩) (show b < wr.heap.size by omega)).trans d0)
      clear b3 hb3 c0 c1 c2 d0
      obtain ⟨ok, hok⟩ : ∃ ok, ok = holdAtOk l i := ⟨_, rfl⟩
      rw [← hok] at HXD
      have HOKI : Hid (holdAtOk l i = ok) := Lib.hid hok.symm
      clear hok
      generalize holdOk x = hk at HOK HXD
      go_cut [29] (fun cv wx => cv = .bool (!(hk && (decide (i = 0) || Op.bytesLess p.1.toList x.1.toList))) ∧ Below W3.heap.size W3 wx)
      case first =>
        have HX : Hid (Ext W3 W3.drew) := Lib.hid (Ext.refl W3).drew
        cases hk
        · refine quiet_region (C := Ext W3) (by kernel_rfl) (by kernel_rfl) HX.out ?_
          repeat (first
            | go_big_quiet_skip
            | (go_big_quiet_want; go_big_quiet_op; go_big_quiet_on)
            | (go_big_quiet_want; go_big_quiet_op; apply Exists.intro; refine ⟨fun _ _ => rfl, ?_⟩; go_big_quiet_on)
            | (go_big_quiet_want
               apply Exists.intro
               refine ⟨fun W hW => ?_, ?_⟩
               (have q0 := hW.cell P0.out z3
                have q1 := hW.cell P1.out z3
                have q2 := hW.cell P2.out z3
                have q3 := hW.cell D0.out (by omega)
                unfold Oper.quietAt
                go_simp
                rfl)
               simp only [Act.put, List.setIfInBounds_toArray, List.set_cons_zero, List.set_cons_succ]
               go_big_quiet_on)
            | (go_big_quiet_want
               apply Exists.intro
               refine ⟨fun W hW => ?_, ?_⟩
               (unfold Oper.quietAt
                go_simp
                go_at_call 89
                refine (HOK.out W).mono ?_
                rintro e w4 ⟨rfl, hb4⟩
                exact ⟨rfl, hW.step hb4⟩)
               simp only [Act.put, List.setIfInBounds_toArray, List.set_cons_zero, List.set_cons_succ]
               go_big_quiet_on))
          refine wpQuiet_nil ?_
          intro W4 hW4
          go_wp2
          go_meet
          exact ⟨rfl, hW4⟩
        by_cases hi0 : i = 0
        · have HI0 : Hid (decide (0 < i) = false) := Lib.hid (decide_eq_false (by omega))
          have HV : Hid (decide (i = 0) = true) := Lib.hid (decide_eq_true hi0)
          clear hi0
          refine quiet_region (C := Ext W3) (by kernel_rfl) (by kernel_rfl) HX.out ?_
          repeat (first
            | go_big_quiet_skip
            | (go_big_quiet_want; go_big_quiet_op; go_big_quiet_on)
            | (go_big_quiet_want; go_big_quiet_op; apply Exists.intro; refine ⟨fun _ _ => rfl, ?_⟩; go_big_quiet_on)
            | (go_big_quiet_want
               apply Exists.intro
               refine ⟨fun W hW => ?_, ?_⟩
               (have q0 := hW.cell P0.out z3
                have q1 := hW.cell P1.out z3
                have q2 := hW.cell P2.out z3
                have q3 := hW.cell D0.out (by omega)
                unfold Oper.quietAt
                go_simp
                rfl)
               simp only [Act.put, List.setIfInBounds_toArray, List.set_cons_zero, List.set_cons_succ]
               go_big_quiet_on)
            | (go_big_quiet_want
               apply Exists.intro
               refine ⟨fun W hW => ?_, ?_⟩
               (unfold Oper.quietAt
                go_simp
                go_at_call 89
                refine (HOK.out W).mono ?_
                rintro e w4 ⟨rfl, hb4⟩
                exact ⟨rfl, hW.step hb4⟩)
               simp only [Act.put, List.setIfInBounds_toArray, List.set_cons_zero, List.set_cons_succ]
               go_big_quiet_on))
          rw [HI0.out]
          repeat (first
            | go_big_quiet_skip
            | (go_big_quiet_want; go_big_quiet_op; go_big_quiet_on)
            | (go_big_quiet_want; go_big_quiet_op; apply Exists.intro; refine ⟨fun _ _ => rfl, ?_⟩; go_big_quiet_on))
          refine wpQuiet_nil ?_
          intro W4 hW4
          go_wp2
          go_meet
          exact ⟨by rw [HV.out]; rfl, hW4⟩
        have hi1 : decide (0 < i) = true := decide_eq_true (by omega)
        have HV : Hid (decide (i = 0) = false) := Lib.hid (decide_eq_false hi0)
        have gw : IntKind.i64.wrap ((i : Int) - 1) = (d : Int) := by have := HDI.out; rw [IntKind.wrap_i64]; omega
        have gw2 : wrap64 ((i : Int) - 1) = (d : Int) := by have := HDI.out; unfold wrap64; omega
        have gd : (d : Int) < (l.length : Int) := by have := HDI.out; omega
        have gd0 : 0 ≤ (d : Int) := by omega
        clear hi0
        cases hbl : Op.bytesLess p.1.toList x.1.toList
        · refine quiet_region (C := Ext W3) (by kernel_rfl) (by kernel_rfl) HX.out ?_
          repeat (first
            | go_big_quiet_skip
            | (go_big_quiet_want; go_big_quiet_op; go_big_quiet_on)
            | (go_big_quiet_want; go_big_quiet_op; apply Exists.intro; refine ⟨fun _ _ => rfl, ?_⟩; go_big_quiet_on)
            | (go_big_quiet_want
               apply Exists.intro
               refine ⟨fun W hW => ?_, ?_⟩
               (have q0 := hW.cell P0.out z3
                have q1 := hW.cell P1.out z3
                have q2 := hW.cell P2.out z3
                have q3 := hW.cell D0.out (by omega)
                unfold Oper.quietAt
                go_simp
                rfl)
               simp only [Act.put, List.setIfInBounds_toArray, List.set_cons_zero, List.set_cons_succ]
               go_big_quiet_on)
            | (go_big_quiet_want
               apply Exists.intro
               refine ⟨fun W hW => ?_, ?_⟩
               (unfold Oper.quietAt
                go_simp
                go_at_call 89
                refine (HOK.out W).mono ?_
                rintro e w4 ⟨rfl, hb4⟩
                exact ⟨rfl, hW.step hb4⟩)
               simp only [Act.put, List.setIfInBounds_toArray, List.set_cons_zero, List.set_cons_succ]
               go_big_quiet_on))
          refine wpQuiet_nil ?_
          intro W4 hW4
          go_wp2
          go_meet
          exact ⟨by rw [HV.out, hbl]; rfl, hW4⟩
        · refine quiet_region (C := Ext W3) (by kernel_rfl) (by kernel_rfl) HX.out ?_
          repeat (first
            | go_big_quiet_skip
            | (go_big_quiet_want; go_big_quiet_op; go_big_quiet_on)
            | (go_big_quiet_want; go_big_quiet_op; apply Exists.intro; refine ⟨fun _ _ => rfl, ?_⟩; go_big_quiet_on)
            | (go_big_quiet_want
               apply Exists.intro
               refine ⟨fun W hW => ?_, ?_⟩
               (have q0 := hW.cell P0.out z3
                have q1 := hW.cell P1.out z3
                have q2 := hW.cell P2.out z3
                have q3 := hW.cell D0.out (by omega)
                unfold Oper.quietAt
                go_simp
                rfl)
               simp only [Act.put, List.setIfInBounds_toArray, List.set_cons_zero, List.set_cons_succ]
               go_big_quiet_on)
            | (go_big_quiet_want
               apply Exists.intro
               refine ⟨fun W hW => ?_, ?_⟩
               (unfold Oper.quietAt
                go_simp
                go_at_call 89
                refine (HOK.out W).mono ?_
                rintro e w4 ⟨rfl, hb4⟩
                exact ⟨rfl, hW.step hb4⟩)
               simp only [Act.put, List.setIfInBounds_toArray, List.set_cons_zero, List.set_cons_succ]
               go_big_quiet_on))
          refine wpQuiet_nil ?_
          intro W4 hW4
          go_wp2
          go_meet
          exact ⟨by rw [HV.out, hbl]; rfl, hW4⟩
      case rest =>
        obtain ⟨rfl, hbc⟩ := hcut
        have HBC : Hid (Below w.heap.size w wc) := Lib.hid (HB3.out.trans (hbc.mono (by omega)))
        have zc : w.heap.size ≤ wc.heap.size := HBC.out.size
        rw [← HXD.out]
        cases ok
        · have HV : Hid (holdsOk l = false) := Lib.hid (holds_ok_not hin HOKI.out)
          go_wp2
          go_ret
          exact ⟨ret_bool HV.out.symm, HBC.out⟩
        · go_wp2
          go_roundw
          case rel => exact ⟨i + 1, by omega, by go_num, Lib.hid (range_snoc HN.out HOKI.out), HBC, zc⟩
          case measure => simp [intOf] <;> omega
    · obtain rfl : i = l.length := by omega
      have HV : Hid (holdsOk l = decide (l.length ≤ 4)) := Lib.hid (holds_ok_end HN.out)
      go_wp2
      go_ret
      exact ⟨ret_bool (by rw [HV.out]; simp; omega), HB.out⟩
end Go.Proofs.YthnimmagaocipaaGreatDoor
set_option linter.unusedVariables false
namespace Go.Proofs.YthnimmagaocipaaGreatDoor
open Go.ChangeShapes Go.WideShapes Go.ChangeAt Go.RowKit

end Go.Proofs.YthnimmagaocipaaGreatDoor
set_option linter.unusedVariables false
namespace Go.Proofs.YthnimmagaocipaaGreatDoor
open Go.ChangeShapes Go.WideShapes Go.ChangeAt Go.RowKit Go.Extern.Stop Go.Stop Go.Extern

set_option maxRecDepth 100000 in
theorem as_nil (t : Value) (w : World) :
    Calls Tryz.prog 139 #[.nilIface, t] w fun e w' => e = .returned (.bool false) ∧ w = w' := by
  go_enter Tryz.func139, Tryz.ntmps139
  go_wp2
  go_ret
  exact ⟨rfl, rfl⟩

abbrev big : Value := .int .i64 4611686018427387904
abbrev OV : Nat := 147
abbrev OP : Nat := 149
abbrev ER : Nat := 142
abbrev RT : Nat := 165
set_option maxRecDepth 100000 in
theorem r_valueOfP (t : Addr) (w : World) : (ReflectliteValue.unpack (.iface OP (.pointer (some t)))).run Tryz.prog w
    = .ok (.agg #[.pointer (some ⟨2, OP, none⟩), .pointer (some ⟨w.heap.size, 0, none⟩), .int .u64 150]) (w.alloc (.cells #[.pointer (some t)] OP)) := by kernel_rfl
set_option maxRecDepth 100000 in
theorem r_typeP (a : Addr) (w : World) : (ReflectliteValue.methodAny (ReflectliteValue.valueError "reflectlite.Value.Type" 0) (fun t _ _ _ => ReflectliteType.toType t) #[.agg #[.pointer (some ⟨2, OP, none⟩), .pointer (some a), .int .u64 150]]).run Tryz.prog w
    = .ok (.iface RT (.agg #[.pointer (some ⟨2, OP, none⟩)])) w := by kernel_rfl
set_option maxRecDepth 100000 in
theorem r_kindP (w : World) : ((ReflectliteType.abiMethod fun t => (fun a : Nat => Value.int IntKind.u8 (a : Int)) <$> Rtype.kind t) #[.pointer (some ⟨2, OP, none⟩)]).run Tryz.prog w = .ok (.int .u8 22) w := by kernel_rfl
set_option maxRecDepth 100000 in
theorem r_kindV (w : World) : ((ReflectliteType.abiMethod fun t => (fun a : Nat => Value.int IntKind.u8 (a : Int)) <$> Rtype.kind t) #[.pointer (some ⟨2, OV, none⟩)]).run Tryz.prog w = .ok (.int .u8 25) w := by kernel_rfl
set_option maxRecDepth 100000 in
theorem r_elem (w : World) : (ReflectliteType.method ReflectliteType.elem #[.agg #[.pointer (some ⟨2, OP, none⟩)]]).run Tryz.prog w = .ok (.iface RT (.agg #[.pointer (some ⟨2, OV, none⟩)])) w := by kernel_rfl
set_option maxRecDepth 100000 in
theorem r_impl (w : World) : (ReflectliteType.relation "Implements" ReflectliteType.implements_ #[.agg #[.pointer (some ⟨2, OV, none⟩)], .iface RT (.agg #[.pointer (some ⟨2, ER, none⟩)])]).run Tryz.prog w = .ok (.bool true) w := by kernel_rfl
set_option maxRecDepth 100000 in
theorem r_typeOf (v : Value) (w : World) : (ReflectliteType.typeOf #[.iface OV v]).run Tryz.prog w = .ok (.iface RT (.agg #[.pointer (some ⟨2, OV, none⟩)])) w := by kernel_rfl
set_option maxRecDepth 100000 in
theorem r_assign (w : World) : (ReflectliteType.relation "AssignableTo" ReflectliteType.assignableTo #[.agg #[.pointer (some ⟨2, OV, none⟩)], .iface RT (.agg #[.pointer (some ⟨2, OV, none⟩)])]).run Tryz.prog w = .ok (.bool true) w := by kernel_rfl
set_option maxRecDepth 100000 in
theorem r_valueOfV (w : World) : (ReflectliteValue.unpack (.iface OV (.agg #[big]))).run Tryz.prog w
    = .ok (.agg #[.pointer (some ⟨2, OV, none⟩), .pointer (some ⟨w.heap.size, 0, none⟩), .int .u64 153]) (w.alloc (.cells #[big] OV)) := by kernel_rfl
set_option maxRecDepth 100000 in
theorem r_partsP (a : Addr) (w : World) : (ReflectliteValue.parts (.agg #[.pointer (some ⟨2, OP, none⟩), .pointer (some a), .int .u64 150])).run Tryz.prog w = .ok (some (OP, a, 150)) w := by kernel_rfl
set_option maxRecDepth 100000 in
theorem r_partsA (a : Addr) (w : World) : (ReflectliteValue.parts (.agg #[.pointer (some ⟨2, OV, none⟩), .pointer (some a), .int .u64 409])).run Tryz.prog w = .ok (some (OV, a, 409)) w := by kernel_rfl
set_option maxRecDepth 100000 in
theorem r_partsV (a : Addr) (w : World) : (ReflectliteValue.parts (.agg #[.pointer (some ⟨2, OV, none⟩), .pointer (some a), .int .u64 153])).run Tryz.prog w = .ok (some (OV, a, 153)) w := by kernel_rfl
set_option maxRecDepth 100000 in
theorem r_elemOf (w : World) : (Rtype.elem? OP).run Tryz.prog w = .ok (some OV) w := by kernel_rfl
set_option maxRecDepth 100000 in
theorem r_mk (p : Addr) (w : World) : (ReflectliteValue.mk OV p ReflectliteValue.flagAddr).run Tryz.prog w = .ok (.agg #[.pointer (some ⟨2, OV, none⟩), .pointer (some p), .int .u64 409]) w := by kernel_rfl
set_option maxRecDepth 100000 in
theorem r_direct (w : World) : (Rtype.directlyAssignable OV OV).run Tryz.prog w = .ok true w := by kernel_rfl
set_option maxRecDepth 100000 in
theorem r_size (w : World) : (sizeOf OV).run Tryz.prog w = .ok 1 w := by kernel_rfl
set_option maxRecDepth 100000 in
theorem r_method (z : Sem Value) (f : TypeId → Addr → Nat → Nat → Sem Value) (v : Value) :
    ReflectliteValue.method z f #[v] = (do match ← ReflectliteValue.parts v with | none => z | some (t, a, fl) => f t a fl (fl % 32)) := rfl
set_option maxRecDepth 100000 in
theorem r_isNil (a p : Addr) (W : World) (ha : W.cell? a = some (.pointer (some p))) :
    (ReflectliteValue.method (ReflectliteValue.valueError "reflectlite.Value.IsNil" 0) ReflectliteValue.isNil #[.agg #[.pointer (some ⟨2, OP, none⟩), .pointer (some a), .int .u64 150]]).run Tryz.prog W = .ok (.bool false) W := by
  rw [r_method]
  simp only [Sem.run_bind, r_partsP, Result.andThen]
  simp [ReflectliteValue.isNil, loadVar, isAgg, underlying, Tryz.underlying149, ha, Result.andThen]
set_option maxRecDepth 100000 in
theorem r_elemV (a p : Addr) (W : World) (ha : W.cell? a = some (.pointer (some p))) :
    (ReflectliteValue.method (ReflectliteValue.valueError "reflectlite.Value.Elem" 0) ReflectliteValue.elem #[.agg #[.pointer (some ⟨2, OP, none⟩), .pointer (some a), .int .u64 150]]).run Tryz.prog W
      = .ok (.agg #[.pointer (some ⟨2, OV, none⟩), .pointer (some p), .int .u64 409]) W := by
  rw [r_method]
  simp only [Sem.run_bind, r_partsP, Result.andThen]
  simp [ReflectliteValue.elem, loadVar, isAgg, underlying, Tryz.underlying149, ha, Result.andThen, r_elemOf, r_mk]
set_option maxRecDepth 100000 in
theorem r_setText (v x : Value) : ReflectliteValue.set #[v, x] = (do
    let (some (dst, a, fl), some (src, b, _)) := (← ReflectliteValue.parts v, ← ReflectliteValue.parts x)
      | unsupported (.noEntry "extern/(internal/reflectlite.Value).Set.zeroValue")
    if fl / ReflectliteValue.flagAddr % 2 == 0 then unsupported (.noEntry "extern/(internal/reflectlite.Value).Set.unaddressable")
    let val ← loadVar src b
    if ← Rtype.directlyAssignable dst src then storeVar dst a val
    else if ← Rtype.implements dst src then
      if (← Rtype.kind src) == 20 then
        match val with
        | .nilIface => unsupported (.noEntry "extern/reflectlite: a nil value of one interface type handed on as a value of another")
        | _ => storeVar dst a val
      else storeVar dst a (.iface src val)
    else panicString ("reflectlite.Set: value of type " ++ (← Rtype.spelt src) ++ " is not assignable to type " ++ (← Rtype.spelt dst))
    pure (.tuple #[])) := rfl
set_option maxRecDepth 100000 in
theorem r_info : (Tryz.prog.info? OV).map (·.size) = some 1 := by kernel_rfl
set_option maxRecDepth 100000 in
theorem r_load (b : Nat) (W : World) (hB : W.heap[b]? = some (.cells #[big] OV (0, 0))) : (loadVar OV ⟨b, 0, none⟩).run Tryz.prog W = .ok (.agg #[big]) W :=
  run_loadVar_row W b OV OV #[big] (0, 0) _ hB Tryz.underlying147 rfl r_info
set_option maxRecDepth 100000 in
theorem r_store (ta : Addr) (old : Value) (W : World) (ht : W.cell? ta = some old) (hf : W.frozen? ta = false) : (storeVar OV ta (.agg #[big])).run Tryz.prog W = .ok () (W.setCell ta big) := by
  unfold storeVar
  simp only [Sem.run_bind, r_size, Result.andThen]
  simp [Value.cells, storeCells, Addr.add]
  rw [run_store Tryz.prog W ta _ _ (by rfl)]
  simp [ht, hf]
set_option maxRecDepth 100000 in
theorem r_set (ta : Addr) (b : Nat) (old : Value) (W : World) (hB : W.heap[b]? = some (.cells #[big] OV (0, 0))) (ht : W.cell? ta = some old) (hf : W.frozen? ta = false) :
    (ReflectliteValue.set #[.agg #[.pointer (some ⟨2, OV, none⟩), .pointer (some ta), .int .u64 409], .agg #[.pointer (some ⟨2, OV, none⟩), .pointer (some ⟨b, 0, none⟩), .int .u64 153]]).run Tryz.prog W
      = .ok (.tuple #[]) (W.setCell ta big) := by
  have h1 := r_load b W hB
  have h2 := r_store ta old W ht hf
  rw [r_setText]
  simp only [Sem.run_bind, r_partsA, r_partsV, Result.andThen]
  simp [ReflectliteValue.flagAddr, h1, h2, Result.andThen, r_direct]
end Go.Proofs.YthnimmagaocipaaGreatDoor
set_option linter.unusedVariables false
namespace Go.Proofs.YthnimmagaocipaaGreatDoor
open Go.ChangeShapes Go.WideShapes Go.ChangeAt Go.RowKit Go.Extern.Stop Go.Stop Go.Extern

abbrev RV : Nat := 155
set_option maxRecDepth 100000 in
set_option maxHeartbeats 4000000 in
theorem as_hit (t : Nat) (old : Value) (w : World) (hg : w.cell? ⟨1, 0, none⟩ = some (.iface RT (.agg #[.pointer (some ⟨2, ER, none⟩)]))) (hT : w.heap[t]? = some (.cells #[old] OV (0, 0))) :
    Calls Tryz.prog 139 #[.iface OV (.agg #[big]), .iface OP (.pointer (some ⟨t, 0, none⟩))] w fun ev w' => ev = .returned (.bool true) ∧
      w' = ((((w.alloc (.cells #[.pointer (some ⟨t, 0, none⟩)] OP)).alloc (.cells #[.pointer (some ⟨2, OP, none⟩), .pointer (some ⟨w.heap.size, 0, none⟩), .int .u64 150] RV)).alloc (.cells #[.pointer (some ⟨2, OP, none⟩), .pointer (some ⟨w.heap.size, 0, none⟩), .int .u64 150] RV)).alloc (.cells #[big] OV)).setCell ⟨t, 0, none⟩ big := by
  have hVO := @run_callFunc_extern Tryz.prog 143 _ (fun args => ReflectliteValue.unpack (args.getD 0 (.tuple #[]))) Tryz.func143 (by kernel_rfl) (by kernel_rfl) (by kernel_rfl) (by kernel_rfl)
  have hTy := @run_callFunc_extern Tryz.prog 144 _ (ReflectliteValue.methodAny (ReflectliteValue.valueError "reflectlite.Value.Type" 0) (fun t _ _ _ => ReflectliteType.toType t)) Tryz.func144 (by kernel_rfl) (by kernel_rfl) (by kernel_rfl) (by kernel_rfl)
  have hIN := @run_callFunc_extern Tryz.prog 145 _ (ReflectliteValue.method (ReflectliteValue.valueError "reflectlite.Value.IsNil" 0) ReflectliteValue.isNil) Tryz.func145 (by kernel_rfl) (by kernel_rfl) (by kernel_rfl) (by kernel_rfl)
  have hKi := @run_callFunc_extern Tryz.prog 164 _ (ReflectliteType.abiMethod fun t => do pure (.int .u8 (← Rtype.kind t))) Tryz.func164 (by kernel_rfl) (by kernel_rfl) (by kernel_rfl) (by kernel_rfl)
  have hEl := @run_callFunc_extern Tryz.prog 174 _ (ReflectliteType.method ReflectliteType.elem) Tryz.func174 (by kernel_rfl) (by kernel_rfl) (by kernel_rfl) (by kernel_rfl)
  have hIm := @run_callFunc_extern Tryz.prog 175 _ (ReflectliteType.relation "Implements" ReflectliteType.implements_) Tryz.func175 (by kernel_rfl) (by kernel_rfl) (by kernel_rfl) (by kernel_rfl)
  have hTO := @run_callFunc_extern Tryz.prog 147 _ ReflectliteType.typeOf Tryz.func147 (by kernel_rfl) (by kernel_rfl) (by kernel_rfl) (by kernel_rfl)
  have hAT := @run_callFunc_extern Tryz.prog 172 _ (ReflectliteType.relation "AssignableTo" ReflectliteType.assignableTo) Tryz.func172 (by kernel_rfl) (by kernel_rfl) (by kernel_rfl) (by kernel_rfl)
  have hVE := @run_callFunc_extern Tryz.prog 148 _ (ReflectliteValue.method (ReflectliteValue.valueError "reflectlite.Value.Elem" 0) ReflectliteValue.elem) Tryz.func148 (by kernel_rfl) (by kernel_rfl) (by kernel_rfl) (by kernel_rfl)
  have hVS := @run_callFunc_extern Tryz.prog 149 _ ReflectliteValue.set Tryz.func149 (by kernel_rfl) (by kernel_rfl) (by kernel_rfl) (by kernel_rfl)
  have tO := r_typeOf
  have a25 := r_assign
  have v25 := r_valueOfV
  have f6 := r_valueOfP
  have f7 := r_typeP
  have k27 := r_kindP
  have k25 := r_kindV
  have e27 := r_elem
  have i25 := r_impl
  have n8 := r_isNil ⟨w.heap.size, 0, none⟩ ⟨t, 0, none⟩ ((w.alloc (.cells #[.pointer (some ⟨t, 0, none⟩)] OP)).alloc (.cells #[.pointer (some ⟨2, OP, none⟩), .pointer (some ⟨w.heap.size, 0, none⟩), .int .u64 150] RV)) (by simp)
  have hlt : 1 < w.heap.size := by
    rcases Nat.lt_or_ge 1 w.heap.size with h | h
    · exact h
    · simp [World.cell?, Array.getElem?_eq_none h] at hg
  have hg2 : ((w.alloc (.cells #[.pointer (some ⟨t, 0, none⟩)] OP)).alloc (.cells #[.pointer (some ⟨2, OP, none⟩), .pointer (some ⟨w.heap.size, 0, none⟩), .int .u64 150] RV)).cell? ⟨1, 0, none⟩ = some (.iface RT (.agg #[.pointer (some ⟨2, ER, none⟩)])) := by
    rw [World.cell?_alloc_lt _ _ ⟨1, 0, none⟩ (by simp; omega), World.cell?_alloc_lt _ _ ⟨1, 0, none⟩ hlt]; exact hg
  have ht0 : w.cell? ⟨t, 0, none⟩ = some old := cell_of_one hT
  have hf0 : w.frozen? ⟨t, 0, none⟩ = false := free_of_one hT
  have htl : t < w.heap.size := lt_of_block hT
  have el := r_elemV ⟨w.heap.size, 0, none⟩ ⟨t, 0, none⟩ (((w.alloc (.cells #[.pointer (some ⟨t, 0, none⟩)] OP)).alloc (.cells #[.pointer (some ⟨2, OP, none⟩), .pointer (some ⟨w.heap.size, 0, none⟩), .int .u64 150] RV)).alloc (.cells #[.pointer (some ⟨2, OP, none⟩), .pointer (some ⟨w.heap.size, 0, none⟩), .int .u64 150] RV)) (by rw [World.cell?_alloc_lt _ _ ⟨w.heap.size, 0, none⟩ (by simp; omega)]; simp)
  have st := r_set ⟨t, 0, none⟩ (w.heap.size + 1 + 1 + 1) old ((((w.alloc (.cells #[.pointer (some ⟨t, 0, none⟩)] OP)).alloc (.cells #[.pointer (some ⟨2, OP, none⟩), .pointer (some ⟨w.heap.size, 0, none⟩), .int .u64 150] RV)).alloc (.cells #[.pointer (some ⟨2, OP, none⟩), .pointer (some ⟨w.heap.size, 0, none⟩), .int .u64 150] RV)).alloc (.cells #[big] OV))
    (by
      have hs : (((w.alloc (.cells #[.pointer (some ⟨t, 0, none⟩)] OP)).alloc (.cells #[.pointer (some ⟨2, OP, none⟩), .pointer (some ⟨w.heap.size, 0, none⟩), .int .u64 150] RV)).alloc (.cells #[.pointer (some ⟨2, OP, none⟩), .pointer (some ⟨w.heap.size, 0, none⟩), .int .u64 150] RV)).heap.size = w.heap.size + 1 + 1 + 1 := by simp
      generalize (((w.alloc (.cells #[.pointer (some ⟨t, 0, none⟩)] OP)).alloc (.cells #[.pointer (some ⟨2, OP, none⟩), .pointer (some ⟨w.heap.size, 0, none⟩), .int .u64 150] RV)).alloc (.cells #[.pointer (some ⟨2, OP, none⟩), .pointer (some ⟨w.heap.size, 0, none⟩), .int .u64 150] RV)) = V at hs ⊢
      rw [← hs]
      show (V.heap.push _)[V.heap.size]? = _
      simp)
    (by rw [World.cell?_alloc_lt _ _ ⟨t, 0, none⟩ (by simp; omega), World.cell?_alloc_lt _ _ ⟨t, 0, none⟩ (by simp; omega), World.cell?_alloc_lt _ _ ⟨t, 0, none⟩ (by simp; omega), World.cell?_alloc_lt _ _ ⟨t, 0, none⟩ htl]; exact ht0)
    (by rw [World.frozen?_alloc_old _ _ ⟨t, 0, none⟩ (by simp; omega), World.frozen?_alloc_old _ _ ⟨t, 0, none⟩ (by simp; omega), World.frozen?_alloc_old _ _ ⟨t, 0, none⟩ (by simp; omega), World.frozen?_alloc_old _ _ ⟨t, 0, none⟩ (Nat.ne_of_lt htl)]; exact hf0)
  clear hT
  go_enter Tryz.func139, Tryz.ntmps139
  go_wp2
  go_outline
  go_ways
  refine wp_loop_rounds 1 ?_
  rw [rounds_succ]
  go_wp2
  go_ret
  exact ⟨rfl, rfl⟩
end Go.Proofs.YthnimmagaocipaaGreatDoor
set_option linter.unusedVariables false
namespace Go.Proofs.YthnimmagaocipaaGreatDoor
open Go.ChangeShapes Go.WideShapes Go.ChangeAt Go.RowKit

set_option maxRecDepth 100000 in
theorem specClamp_any (n : Int) (w : World) : Calls Tryz.prog 92 #[.int .i64 n, .int .i64 0, .int .i64 4611686018427387904] w fun e w' => e = .returned (.int .i64 (clampM n)) ∧ w = w' := by
  by_cases h0 : n < 0
  · have hv : clampM n = 0 := by unfold clampM; rw [if_pos h0]
    rw [hv]; clear hv
    go_enter Tryz.func92, Tryz.ntmps92
    go_wp2
    go_ret
    exact ⟨rfl, rfl⟩
  · by_cases h1 : 4611686018427387904 < n
    · have hv : clampM n = 4611686018427387904 := by unfold clampM; rw [if_neg h0, if_pos h1]
      rw [hv]; clear hv
      go_enter Tryz.func92, Tryz.ntmps92
      go_wp2
      go_ret
      exact ⟨rfl, rfl⟩
    · have hv : clampM n = n := by unfold clampM; rw [if_neg h0, if_neg h1]
      rw [hv]; clear hv
      go_enter Tryz.func92, Tryz.ntmps92
      go_wp2
      go_ret
      exact ⟨rfl, rfl⟩

set_option maxRecDepth 100000 in
theorem implClamp_any (n : Int) (w : World) : Calls Tryz.prog 138 #[.int .i64 n] w fun e w' => e = .returned (.int .i64 (clampM n)) ∧ w = w' := by
  by_cases h0 : n < 0
  · have hv : clampM n = 0 := by unfold clampM; rw [if_pos h0]
    rw [hv]; clear hv
    go_enter Tryz.func138, Tryz.ntmps138
    go_wp2
    go_ret
    exact ⟨ret_int (by omega), rfl⟩
  · by_cases h1 : 4611686018427387904 < n
    · have hv : clampM n = 4611686018427387904 := by unfold clampM; rw [if_neg h0, if_pos h1]
      rw [hv]; clear hv
      go_enter Tryz.func138, Tryz.ntmps138
      go_wp2
      go_ret
      exact ⟨ret_int (by omega), rfl⟩
    · have hv : clampM n = n := by unfold clampM; rw [if_neg h0, if_neg h1]
      rw [hv]; clear hv
      go_enter Tryz.func138, Tryz.ntmps138
      go_wp2
      go_ret
      exact ⟨ret_int (by omega), rfl⟩

set_option maxRecDepth 100000 in
theorem specSat_any (a b : Int) (w : World) : Calls Tryz.prog 56 #[.int .i64 a, .int .i64 b] w fun e w' => e = .returned (.int .i64 (satVal a b)) ∧ w = w' := by
  cases hk : addOk (clampM a) (clampM b)
  · have hv : satVal a b = 4611686018427387904 := by simp [satVal, hk]
    rw [hv]; clear hv
    go_enter Tryz.func56, Tryz.ntmps56
    go_wp2_with (first | (go_at_call 92; refine (specClamp_any _ _).mono ?_; rintro e w' ⟨rfl, rfl⟩) | (go_at_call 91; refine (specAdd_any _ _ _).mono ?_; rintro e w' ⟨rfl, rfl⟩))
    go_ret
    exact ⟨rfl, rfl⟩
  · have hv : satVal a b = addVal (clampM a) (clampM b) := by simp [satVal, hk, addVal]
    rw [hv]; clear hv
    go_enter Tryz.func56, Tryz.ntmps56
    go_wp2_with (first | (go_at_call 92; refine (specClamp_any _ _).mono ?_; rintro e w' ⟨rfl, rfl⟩) | (go_at_call 91; refine (specAdd_any _ _ _).mono ?_; rintro e w' ⟨rfl, rfl⟩))
    go_ret
    exact ⟨rfl, rfl⟩

set_option maxRecDepth 100000 in
theorem implSat_any (a b : Int) (w : World) (hg : w.cell? ⟨1, 0, none⟩ = some (.iface RT (.agg #[.pointer (some ⟨2, ER, none⟩)]))) :
    Calls Tryz.prog 125 #[.int .i64 a, .int .i64 b] w fun e w' => e = .returned (.int .i64 (satVal a b)) ∧ Below w.heap.size w w' := by
  have ha := clampM_mon a
  have hb := clampM_mon b
  have hlt : 1 < w.heap.size := by
    rcases Nat.lt_or_ge 1 w.heap.size with h | h
    · exact h
    · simp [World.cell?, Array.getElem?_eq_none h] at hg
  by_cases hover : 4611686018427387904 - clampM b < clampM a
  · have hk : addOk (clampM a) (clampM b) = false := by unfold addOk; rw [decide_eq_false (by omega)]; simp
    have hv : satVal a b = 4611686018427387904 := by simp [satVal, hk]
    rw [hv]; clear hv hk
    go_enter Tryz.func125, Tryz.ntmps125
    go_wp2_with (first | (go_at_call 138; refine (implClamp_any _ _).mono ?_; rintro e w' ⟨rfl, rfl⟩) | (go_at_call 137; refine (sum_over _ _ _ ha hb hover).mono ?_; rintro e w' ⟨rfl, rfl⟩))
    go_wp2_with fail
    have hgA : (w.alloc (.cells #[.int .i64 0] OV)).cell? ⟨1, 0, none⟩ = some (.iface RT (.agg #[.pointer (some ⟨2, ER, none⟩)])) := cell?_alloc_old _ hg
    have hTA : (w.alloc (.cells #[.int .i64 0] OV)).heap[w.heap.size]? = some (.cells #[.int .i64 0] OV (0, 0)) := by
      show (w.heap.push _)[w.heap.size]? = _
      simp
    refine (as_hit w.heap.size (.int .i64 0) _ hgA hTA).mono ?_
    rintro e w1 ⟨rfl, rfl⟩
    go_wp2
    go_ret
    exact ⟨rfl, by go_grown⟩
  · have hk : addOk (clampM a) (clampM b) = true := by unfold addOk; rw [ha, hb, decide_eq_true (by omega)]; rfl
    have hv : satVal a b = clampM a + clampM b := by simp [satVal, hk]
    rw [hv]; clear hv hk
    go_enter Tryz.func125, Tryz.ntmps125
    go_wp2_with fail
    refine (implClamp_any _ _).mono ?_
    rintro e w' ⟨rfl, rfl⟩
    go_wp2_with fail
    refine (implClamp_any _ _).mono ?_
    rintro e w' ⟨rfl, rfl⟩
    go_wp2_with fail
    refine (sum_ok _ _ _ ha hb (by omega)).mono ?_
    rintro e w' ⟨rfl, rfl⟩
    go_wp2_with fail
    refine (as_nil _ _).mono ?_
    rintro e w' ⟨rfl, rfl⟩
    go_wp2
    go_ret
    exact ⟨rfl, (Below.refl _ _).alloc (Nat.le_refl _) _⟩
end Go.Proofs.YthnimmagaocipaaGreatDoor
set_option linter.unusedVariables false
namespace Go.Proofs.YthnimmagaocipaaGreatDoor
open Go.ChangeShapes Go.WideShapes Go.ChangeAt Go.RowKit

set_option maxRecDepth 100000 in
theorem storedL_next {l : List HoldD} {i : Nat} {x : HoldD} (h : l[i]? = some x) : storedL (l.take (i + 1)) = satVal (storedL (l.take i)) x.2.1 := by
  obtain ⟨hi, rfl⟩ := List.getElem?_eq_some_iff.1 h
  unfold storedL
  rw [List.take_succ_eq_append_getElem hi, List.foldl_append]
  rfl
set_option maxRecDepth 100000 in
set_option maxHeartbeats 1600000 in
theorem specStored_any (hi : Nat) (v : Value) (l : List HoldD) (w : World) (hn : l.length ≤ 1048576) (h : HoldsR.rd hi w [v] l) (hh : hi ≤ w.heap.size) :
    Calls Tryz.prog 57 #[v] w fun e w' => e = .returned (.int .i64 (storedL l)) ∧ Below w.heap.size w w' := by
  obtain ⟨A, c, rfl, hc, h⟩ := holds_rd h
  have HR := Lib.hid h
  clear h
  go_enter Tryz.func57, Tryz.ntmps57
  go_wp2
  go_loopw [3, 8] (fun nv iv wr => ∃ i : Nat, i ≤ l.length ∧ iv = .int .i64 i ∧ nv = .int .i64 (storedL (l.take i)) ∧ Hid (Below w.heap.size w wr) ∧ w.heap.size ≤ wr.heap.size) (fun _ iv _ => l.length - (intOf iv).toNat)
  case atStart => exact ⟨0, Nat.zero_le _, rfl, rfl, Lib.hid (Below.refl _ _), Nat.le_refl _⟩
  case round =>
    obtain ⟨i, hi', rfl, rfl, HB, hz⟩ := hrel
    by_cases hin : i < l.length
    · obtain ⟨x, hx⟩ : ∃ x, l[i]? = some x := ⟨_, List.getElem?_eq_getElem hin⟩
      obtain ⟨b, off, rfl, hbl, c0, c1, c2⟩ := HR.out i x hx
      have HNX := Lib.hid (storedL_next hx)
      clear hx
      have c0 := (HB.out.cell (p := ⟨b, off + i * 3, none⟩) (show b < w.heap.size by omega)).trans c0
      have c1 := (HB.out.cell (p := ⟨b, off + i * 3 + 1, none⟩) (show b < w.heap.size by omega)).trans c1
      have c2 := (HB.out.cell (p := ⟨b, off + i * 3 + 2, none⟩) (show b < w.heap.size by omega)).trans c2
      have g1 : (i : Int) < (l.length : Int) := by omega
      have g2 : 0 ≤ (i : Int) := by omega
      have HSA := Lib.hid (fun W => specSat_any (storedL (l.take i)) x.2.1 W)
      have HB2 : Hid (Below w.heap.size w (wr.alloc (.cells #[.string x.1, .int .i64 x.2.1, .int .i64 x.2.2] 104))) := Lib.hid (HB.out.alloc hz _)
      go_wp2_with fail
      refine (HSA.out _).mono ?_
      rintro e w5 ⟨rfl, rfl⟩
      go_wp2
      go_roundw
      case rel => exact ⟨i + 1, by omega, by go_num, by rw [HNX.out], HB2, by simp; omega⟩
      case measure => simp [intOf] <;> omega
    · obtain rfl : i = l.length := by omega
      rw [List.take_length]
      go_wp2
      go_ret
      exact ⟨rfl, HB.out⟩
end Go.Proofs.YthnimmagaocipaaGreatDoor
set_option linter.unusedVariables false
namespace Go.Proofs.YthnimmagaocipaaGreatDoor
open Go.ChangeShapes Go.WideShapes Go.ChangeAt Go.RowKit

end Go.Proofs.YthnimmagaocipaaGreatDoor
set_option linter.unusedVariables false
namespace Go.Proofs.YthnimmagaocipaaGreatDoor
open Go.ChangeShapes Go.WideShapes Go.ChangeAt Go.RowKit

section
variable {P : Program} (w : World)
set_option maxRecDepth 100000 in
theorem run_app_void (base : Nat) (t ty e : TypeId) (i : TypeInfo) (ht : P.underlying t = some (.slice e)) (hi : P.info? e = some i)
    (v : Value) (n : Nat) (xs : List Value) (size : Nat) (hown : w.ownsRow base e size v n xs) (c : Nat) : (Builtin.append_ #[t, t] ty #[v, .slice none 0 c]).run P w = .ok v w := by
  rcases hown.2 with ⟨rfl, rfl⟩ | ⟨g, cap, cur, rfl, _, _, hnc, _⟩
  · simp [Builtin.append_, run_underlying ht, sizeOf, typeInfo, hi, Builtin.lenOf, Builtin.firstCells]
  · simp [Builtin.append_, run_underlying ht, sizeOf, typeInfo, hi, Builtin.lenOf, Builtin.firstCells, hnc, storeCells]
set_option maxRecDepth 100000 in
theorem add_off (b off j : Nat) : (⟨b, off, none⟩ : Addr).add j = ⟨b, off + j, none⟩ := by
  unfold Addr.add
  split
  · subst j; rfl
  · rfl
set_option maxRecDepth 100000 in
theorem run_app_all (base : Nat) (t ty e : TypeId) (K : IntKind) (bytes : Nat) (ht : P.underlying t = some (.slice e)) (hinfo : (P.info? e).map (fun i => (i.zero, i.size, i.bytes)) = some (some (.int K 0), 1, bytes))
    (v : Value) (l : List Int) (hown : ow e K base w v l) (hi : Nat) (u : Value) (m : List Int) (hr : rd K hi w u m)
    (h63 : l.length + m.length ≤ maxLen) (hbytes : (l.length + m.length) * bytes ≤ 140737488355328) (hbase : base ≤ w.heap.size) :
    ∃ v' w', (Builtin.append_ #[t, t] ty #[v, u]).run P w = .ok v' w' ∧ ow e K base w' v' (l ++ m) ∧ w.grownBy w' v.ownBlock := by
  obtain ⟨i0, hi0, hz0, hz1, hz2⟩ := info_parts hinfo
  obtain ⟨A, c, rfl, hc, hj⟩ := hr
  have hne : ∀ (ad : Addr), A = some ad → ∀ j x, (m.map (Value.int K))[j]? = some x → w.cell? (ad.add j) = some x := by
    intro ad hA j x hx
    have hjm : j < m.length := by have := (List.getElem?_eq_some_iff.1 hx).1; simpa using this
    obtain ⟨b, off, e', _, hcell⟩ := hj j hjm
    rw [hA] at e'
    obtain rfl := Option.some.inj e'
    rw [add_off, hcell, ← hx, map_getD hjm]
  cases A with
  | none =>
    have hm : m = [] := by
      cases m with
      | nil => rfl
      | cons y m =>
        obtain ⟨b, off, e', _⟩ := hj 0 (by simp)
        cases e'
    subst hm
    refine ⟨v, w, run_app_void w base t ty e i0 ht hi0 v l.length _ 1 hown c, by simpa using hown, World.grownBy.refl w _⟩
  | some ad =>
    obtain ⟨v', w', h1, h2, h3, _⟩ := run_append_own (P := P) w base t ty e i0 (.int K 0) 1 bytes ht hi0 hz0 hz1 hz2 rfl (by decide) v l.length (l.map (Value.int K)) hown ad m.length c (m.map (Value.int K)) (by simp) (hne ad rfl) (fun u hu => by obtain ⟨x, _, rfl⟩ := List.mem_map.1 hu; rfl) h63 hbytes hbase
    refine ⟨v', w', h1, ?_, h3⟩
    unfold ow
    rw [List.length_append, List.map_append]
    exact h2
set_option maxRecDepth 100000 in
theorem wp_app_all {o : Oper} {a : Act} {Kn : Act → World → Prop} {Q : Exit → Act → World → Prop} (s x : Operand) (t : TypeId)
    (ho : o.op = .call { callee := .builtin .append, args := #[s, x], argTypes := #[t, t] })
    (base : Nat) (e : TypeId) (K : IntKind) (bytes : Nat) (ht : P.underlying t = some (.slice e)) (hinfo : (P.info? e).map (fun i => (i.zero, i.size, i.bytes)) = some (some (.int K 0), 1, bytes))
    (v : Value) (l : List Int) (hs : a.eval s = v) (hown : ow e K base w v l) (hi : Nat) (u : Value) (m : List Int) (hx : a.eval x = u) (hr : rd K hi w u m)
    (h63 : l.length + m.length ≤ maxLen) (hbytes : (l.length + m.length) * bytes ≤ 140737488355328) (hbase : base ≤ w.heap.size)
    (h : ∀ v' w', ow e K base w' v' (l ++ m) → w.grownBy w' v.ownBlock → Kn (a.put o.dst v') w') : o.wp P a w Kn Q := by
  obtain ⟨v', w', hrun, h2, h3⟩ := run_app_all (P := P) w base t o.type e K bytes ht hinfo v l hown hi u m hr h63 hbytes hbase
  unfold Oper.wp execOp
  simp only [ho, resolve, invoke, builtin, Sem.run_bind, Sem.run_pure, Result.andThen_ok, List.map_toArray, List.map_cons, List.map_nil, hs, hx, hrun]
  exact h v' w' h2 h3
set_option maxRecDepth 100000 in
/-- append(dst, src...), dst a row of the call's own from block base on -/
theorem app_all {ops : Array Oper} {rest : List Oper} {o : Oper} {a : Act} {Q : Exit → Act → World → Prop} (hgd : o.guard = none) (s x : Operand) (t : TypeId)
    (ho : o.op = .call { callee := .builtin .append, args := #[s, x], argTypes := #[t, t] })
    (base : Nat) (e : TypeId) (K : IntKind) (bytes : Nat) (ht : P.underlying t = some (.slice e)) (hinfo : (P.info? e).map (fun i => (i.zero, i.size, i.bytes)) = some (some (.int K 0), 1, bytes))
    (v : Value) (l : List Int) (hs : a.eval s = v) (hown : ow e K base w v l) (hi : Nat) (u : Value) (m : List Int) (hx : a.eval x = u) (hr : rd K hi w u m)
    (h63 : l.length + m.length ≤ maxLen) (hbytes : (l.length + m.length) * bytes ≤ 140737488355328) (hbase : base ≤ w.heap.size)
    (h : ∀ v' w', ow e K base w' v' (l ++ m) → w.grownBy w' v.ownBlock → Below base w w' → wpList P ops Q rest (a.put o.dst v') w') : wpList P ops Q (o :: rest) a w :=
  wpList_plain hgd fun _ hK => wp_app_all w s x t ho base e K bytes ht hinfo v l hs hown hi u m hx hr h63 hbytes hbase fun v' w' h2 h3 => hK _ _ (h v' w' h2 h3 ((Below.refl base w).grown h3 hbase fun k hk => (hown.lt k hk).1))
end
end Go.Proofs.YthnimmagaocipaaGreatDoor
set_option linter.unusedVariables false
namespace Go.Proofs.YthnimmagaocipaaGreatDoor
open Go.ChangeShapes Go.WideShapes Go.ChangeAt Go.RowKit

def slotOk (x : SlotD) : Bool := digs x.1 && (decide (x.1.size = 6) && (digs x.2.1 && (decide (x.2.1.size = 4) && inB (x.2.2.length : Int) 1 200)))
set_option maxRecDepth 100000 in
set_option maxHeartbeats 1600000 in
theorem specSlotOk_any (hi : Nat) (v : Value) (x : SlotD) (w : World) (hs1 : x.1.size ≤ maxLen) (hs2 : x.2.1.size ≤ maxLen) (h : rd .u8 hi w v x.2.2) :
    Calls Tryz.prog 90 #[.agg #[.string x.1, .string x.2.1, v]] w fun e w' => e = .returned (.bool (slotOk x)) ∧ Below w.heap.size w w' := by
  obtain ⟨A, c, rfl, -⟩ := h.form
  clear h
  have HD1 := Lib.hid (fun w => specDigits_any x.1 w hs1)
  have HD2 := Lib.hid (fun w => specDigits_any x.2.1 w hs2)
  have HI := Lib.hid (fun w => inB_any (x.2.2.length : Int) 1 200 w)
  have HV : Hid (slotOk x = (digs x.1 && (decide (x.1.size = 6) && (digs x.2.1 && (decide (x.2.1.size = 4) && inB (x.2.2.length : Int) 1 200))))) := Lib.hid rfl
  generalize digs x.1 = b1 at HD1 HV
  generalize digs x.2.1 = b2 at HD2 HV
  generalize inB (x.2.2.length : Int) 1 200 = b3 at HI HV
  have HB0 : Hid (Below w.heap.size w (w.alloc (.cells #[.string x.1, .string x.2.1, .slice A x.2.2.length c] 107))) := Lib.hid ((Below.refl _ _).alloc (Nat.le_refl _) _)
  rw [HV.out]
  cases b1
  · go_enter Tryz.func90, Tryz.ntmps90
    go_wp2_with fail
    refine (HD1.out _).mono ?_
    rintro e w1 ⟨rfl, rfl⟩
    go_wp2
    go_ret
    exact ⟨rfl, HB0.out⟩
  by_cases e6 : x.1.size = 6
  case neg =>
    rw [decide_eq_false e6]
    have e6' : ((x.1.size : Int) == 6) = false := by simp; omega
    clear e6
    go_enter Tryz.func90, Tryz.ntmps90
    go_wp2_with fail
    refine (HD1.out _).mono ?_
    rintro e w1 ⟨rfl, rfl⟩
    go_wp2
    go_ret
    exact ⟨rfl, HB0.out⟩
  rw [decide_eq_true e6]
  have e6' : ((x.1.size : Int) == 6) = true := by simp; omega
  have HE6 := Lib.hid e6
  clear e6
  cases b2
  · go_enter Tryz.func90, Tryz.ntmps90
    go_wp2_with fail
    refine (HD1.out _).mono ?_
    rintro e w1 ⟨rfl, rfl⟩
    go_wp2_with fail
    refine (HD2.out _).mono ?_
    rintro e w1 ⟨rfl, rfl⟩
    go_wp2
    go_ret
    exact ⟨rfl, HB0.out⟩
  by_cases e4 : x.2.1.size = 4
  case neg =>
    rw [decide_eq_false e4]
    have e4' : ((x.2.1.size : Int) == 4) = false := by simp; omega
    clear e4
    go_enter Tryz.func90, Tryz.ntmps90
    go_wp2_with fail
    refine (HD1.out _).mono ?_
    rintro e w1 ⟨rfl, rfl⟩
    go_wp2_with fail
    refine (HD2.out _).mono ?_
    rintro e w1 ⟨rfl, rfl⟩
    go_wp2
    go_ret
    exact ⟨rfl, HB0.out⟩
  rw [decide_eq_true e4]
  have e4' : ((x.2.1.size : Int) == 4) = true := by simp; omega
  clear e4
  go_enter Tryz.func90, Tryz.ntmps90
  go_wp2_with fail
  refine (HD1.out _).mono ?_
  rintro e w1 ⟨rfl, rfl⟩
  go_wp2_with fail
  refine (HD2.out _).mono ?_
  rintro e w1 ⟨rfl, rfl⟩
  go_wp2_with fail
  refine (HI.out _).mono ?_
  rintro e w1 ⟨rfl, rfl⟩
  go_wp2
  go_ret
  exact ⟨rfl, HB0.out⟩
end Go.Proofs.YthnimmagaocipaaGreatDoor
set_option linter.unusedVariables false
namespace Go.Proofs.YthnimmagaocipaaGreatDoor
open Go.ChangeShapes Go.WideShapes Go.ChangeAt Go.RowKit

set_option maxRecDepth 100000 in
theorem ow_made (T : TypeId) (K : IntKind) (w : World) : ow T K w.heap.size (w.alloc (.cells #[] T)) (.slice (some ⟨w.heap.size, 0, none⟩) 0 0) [] := by
  refine ⟨rfl, Or.inr ⟨w.heap.size, 0, #[], rfl, Nat.le_refl _, ?_, Nat.le_refl _, Nat.zero_le _, rfl, rfl⟩⟩
  show (w.heap.push _)[w.heap.size]? = _
  simp
/-- the first with this trace and this type: its reply -/
def isSlot (t m : ByteArray) (x : SlotD) : Bool := decide (x.1 = t) && decide (x.2.1 = m)
end Go.Proofs.YthnimmagaocipaaGreatDoor
set_option linter.unusedVariables false
namespace Go.Proofs.YthnimmagaocipaaGreatDoor
open Go.ChangeShapes Go.WideShapes Go.ChangeAt Go.RowKit

/-- element i is right, and none before it has its trace and type -/
def slotAtOk (l : List SlotD) (i : Nat) : Bool := match l[i]? with | some x => slotOk x && (l.take i).all fun y => !isSlot x.1 x.2.1 y | none => true
def slotsOk (l : List SlotD) : Bool := (List.range l.length).all (slotAtOk l) && decide (l.length ≤ 6)
set_option maxRecDepth 100000 in
theorem slots_ok_not {l : List SlotD} {i : Nat} (hi : i < l.length) (h : slotAtOk l i = false) : slotsOk l = false := by
  unfold slotsOk
  have : (List.range l.length).all (slotAtOk l) = false := by
    rw [List.all_eq_false]
    exact ⟨i, List.mem_range.2 hi, by rw [h]; exact Bool.false_ne_true⟩
  rw [this]; rfl
set_option maxRecDepth 100000 in
theorem slots_ok_end {l : List SlotD} (h : ∀ j, j < l.length → slotAtOk l j = true) : slotsOk l = decide (l.length ≤ 6) := by
  unfold slotsOk
  have : (List.range l.length).all (slotAtOk l) = true := List.all_eq_true.2 fun j hj => h j (List.mem_range.1 hj)
  rw [this]; rfl
set_option maxRecDepth 100000 in
theorem slot_at {l : List SlotD} {i : Nat} {x : SlotD} (hx : l[i]? = some x) : slotAtOk l i = (slotOk x && (l.take i).all fun y => !isSlot x.1 x.2.1 y) := by
  unfold slotAtOk; rw [hx]
set_option maxRecDepth 100000 in
set_option maxHeartbeats 3200000 in
theorem specSlotsOk_any (hi : Nat) (v : Value) (l : List SlotD) (w : World) (hn : l.length ≤ 2000000) (hs : ∀ x ∈ l, x.1.size ≤ maxLen ∧ x.2.1.size ≤ maxLen) (h : SlotsR.rd hi w [v] l) (hh : hi ≤ w.heap.size) :
    Calls Tryz.prog 55 #[v] w fun e w' => e = .returned (.bool (slotsOk l)) ∧ Below w.heap.size w w' := by
  obtain ⟨A, c, rfl, hc, h⟩ := slots_rd h
  have HR := Lib.hid h
  have HS := Lib.hid hs
  clear h hs
  go_enter Tryz.func55, Tryz.ntmps55
  go_wp2
  go_loopw [9] (fun iv wr => ∃ i : Nat, i ≤ l.length ∧ iv = .int .i64 i ∧ Hid (∀ j, j < i → slotAtOk l j = true) ∧ Hid (Below w.heap.size w wr) ∧ w.heap.size ≤ wr.heap.size) (fun iv _ => l.length - (intOf iv).toNat)
  case atStart => exact ⟨0, Nat.zero_le _, rfl, Lib.hid (fun j hj => absurd hj (by omega)), Lib.hid (Below.refl _ _), Nat.le_refl _⟩
  case round =>
    obtain ⟨i, hi', rfl, HN, HB, hz⟩ := hrel
    by_cases hin : i < l.length
    · obtain ⟨x, hx⟩ : ∃ x, l[i]? = some x := ⟨_, List.getElem?_eq_getElem hin⟩
      obtain ⟨b, off, A', c', rfl, hbl, d0, d1, d2, hrd⟩ := HR.out i x hx
      obtain ⟨hs1, hs2⟩ := HS.out x (List.mem_of_getElem? hx)
      have d0 := (HB.out.cell (p := ⟨b, off + i * 3, none⟩) (show b < w.heap.size by omega)).trans d0
      have d1 := (HB.out.cell (p := ⟨b, off + i * 3 + 1, none⟩) (show b < w.heap.size by omega)).trans d1
      have d2 := (HB.out.cell (p := ⟨b, off + i * 3 + 2, none⟩) (show b < w.heap.size by omega)).trans d2
      have HRD := Lib.hid hrd
      have HAT := Lib.hid (slot_at hx)
      have g1 : (i : Int) < (l.length : Int) := by omega
      have g2 : 0 ≤ (i : Int) := by omega
      have g3 : (i : Int) ≤ (c : Int) := by omega
      clear hx hrd
      go_upto_region 4 with fail
      obtain ⟨W3, hW3⟩ : ∃ W3, W3 = wr.alloc (.cells #[.string x.1, .string x.2.1, .slice A' x.2.2.length c'] 107) := ⟨_, rfl⟩
      have b3 : bk W3 wr.heap.size 107 [.string x.1, .string x.2.1, .slice A' x.2.2.length c'] := by rw [hW3]; exact bk.new wr _ _
      have hb3 : Below wr.heap.size wr W3 := by rw [hW3]; exact (Below.refl _ _).alloc (Nat.le_refl _) _
      rw [← hW3]
      clear hW3
      have z3 := b3.lt
      have HB3 : Hid (Below w.heap.size w W3) := Lib.hid (HB.out.trans (hb3.mono hz))
      have HOK := Lib.hid (specSlotOk_any hi _ x W3 hs1 hs2 (HRD.out.below HB3.out hh))
      have HX3 := Lib.hid b3
      obtain ⟨q0, q1, q2⟩ := b3.cells3
      clear b3 hb3 HB d0 d1 d2 HRD hs1 hs2
      generalize slotOk x = ok at HOK HAT
      go_wp2_with fail
      refine HOK.out.mono ?_
      rintro e w4 ⟨rfl, hb4⟩
      have z4 := hb4.size
      have HB4 : Hid (Below w.heap.size w w4) := Lib.hid (HB3.out.trans (hb4.mono (by omega)))
      have HX4 := Lib.hid (HX3.out.below hb4 z3)
      clear hb4 HX3 HB3 q0 q1 q2 HOK
      cases ok
      · have HV : Hid (slotsOk l = false) := Lib.hid (slots_ok_not hin (by rw [HAT.out]; rfl))
        go_wp2
        go_ret
        exact ⟨ret_bool HV.out.symm, HB4.out⟩
      generalize wr.heap.size = gx at *
      go_wp2
      go_loopw [21] (fun kv wr => ∃ k : Nat, k ≤ i ∧ kv = .int .i64 k ∧ Hid (∀ y ∈ l.take k, isSlot x.1 x.2.1 y = false) ∧ Hid (bk wr gx 107 [.string x.1, .string x.2.1, .slice A' x.2.2.length c']) ∧ Hid (Below w.heap.size w wr) ∧ gx < wr.heap.size) (fun kv _ => i - (intOf kv).toNat)
      case atStart => exact ⟨0, Nat.zero_le _, rfl, Lib.hid (by simp), HX4, HB4, by omega⟩
      case round =>
        obtain ⟨k, hk, rfl, HK, HXs, HBs, hzs⟩ := hrel
        by_cases hki : k < i
        · obtain ⟨y, hy⟩ : ∃ y, l[k]? = some y := ⟨_, List.getElem?_eq_getElem (by omega)⟩
          obtain ⟨b', off', A2, c2, e', -, d0, d1, d2, -⟩ := HR.out k y hy
          simp only [Option.some.injEq, Addr.mk.injEq, and_true] at e'
          obtain ⟨rfl, rfl⟩ := e'
          have d0 := (HBs.out.cell (p := ⟨b, off + k * 3, none⟩) (show b < w.heap.size by omega)).trans d0
          have d1 := (HBs.out.cell (p := ⟨b, off + k * 3 + 1, none⟩) (show b < w.heap.size by omega)).trans d1
          have d2 := (HBs.out.cell (p := ⟨b, off + k * 3 + 2, none⟩) (show b < w.heap.size by omega)).trans d2
          have k1 : (k : Int) < (i : Int) := by omega
          have k2 : 0 ≤ (k : Int) := by omega
          have HYI := Lib.hid hy
          clear hy
          go_upto_region 9 with fail
          obtain ⟨W5, hW5⟩ : ∃ W5, W5 = wr.alloc (.cells #[.string y.1, .string y.2.1, .slice A2 y.2.2.length c2] 107) := ⟨_, rfl⟩
          have b5 : bk W5 wr.heap.size 107 [.string y.1, .string y.2.1, .slice A2 y.2.2.length c2] := by rw [hW5]; exact bk.new wr _ _
          have hb5 : Below wr.heap.size wr W5 := by rw [hW5]; exact (Below.refl _ _).alloc (Nat.le_refl _) _
          rw [← hW5]
          clear hW5
          have HX5 := Lib.hid (HXs.out.below hb5 hzs)
          have HB5 : Hid (Below w.heap.size w W5) := Lib.hid (HBs.out.trans (hb5.mono HBs.out.size))
          have z5 := hb5.size
          obtain ⟨q0, q1, q2⟩ := HX5.out.cells3
          obtain ⟨r0, r1, r2⟩ := b5.cells3
          clear b5 hb5 d0 d1 d2 HXs HBs
          have HNY : isSlot x.1 x.2.1 y = false → Hid (∀ y ∈ l.take (k + 1), isSlot x.1 x.2.1 y = false) := fun hne => Lib.hid (by
            obtain ⟨h1, h2⟩ := List.getElem?_eq_some_iff.1 HYI.out
            rw [List.take_succ_eq_append_getElem h1, h2]
            intro z hz'
            rcases List.mem_append.1 hz' with hz' | hz'
            · exact HK.out z hz'
            · rw [List.mem_singleton.1 hz']; exact hne)
          by_cases e1 : y.1 = x.1
          · have hel1 : y.1.toList = x.1.toList := by rw [e1]
            by_cases e2 : y.2.1 = x.2.1
            · have hel2 : y.2.1.toList = x.2.1.toList := by rw [e2]
              have HV : Hid (slotsOk l = false) := Lib.hid (slots_ok_not hin (by
                rw [HAT.out, Bool.true_and, List.all_eq_false]
                refine ⟨y, ?_, ?_⟩
                · obtain ⟨h1, h2⟩ := List.getElem?_eq_some_iff.1 HYI.out
                  rw [List.mem_take_iff_getElem]; exact ⟨k, by omega, h2⟩
                · unfold isSlot; rw [decide_eq_true e1, decide_eq_true e2]; decide))
              clear e1 e2 HNY
              go_wp2
              go_ret
              exact ⟨ret_bool HV.out.symm, HB5.out⟩
            · have hel2 : ¬ y.2.1.toList = x.2.1.toList := fun e => e2 (str_eq_list.1 e)
              have hel3 : (y.2.1.toList == x.2.1.toList) = false := by simpa using hel2
              have HN2 := HNY (by unfold isSlot; rw [decide_eq_false e2, Bool.and_false])
              clear e1 e2 HNY
              go_wp2
              go_roundw
              case rel => exact ⟨k + 1, by omega, by go_num, HN2, HX5, HB5, by omega⟩
              case measure => simp [intOf] <;> omega
          · have hel1 : ¬ y.1.toList = x.1.toList := fun e => e1 (str_eq_list.1 e)
            have hel3 : (y.1.toList == x.1.toList) = false := by simpa using hel1
            have HN2 := HNY (by unfold isSlot; rw [decide_eq_false e1, Bool.false_and])
            clear e1 HNY
            go_wp2
            go_roundw
            case rel => exact ⟨k + 1, by omega, by go_num, HN2, HX5, HB5, by omega⟩
            case measure => simp [intOf] <;> omega
        · obtain rfl : k = i := by omega
          have HOKI : Hid (∀ j, j < k + 1 → slotAtOk l j = true) := Lib.hid (fun j hj => by
            by_cases e : j = k
            · subst e
              rw [HAT.out, Bool.true_and, List.all_eq_true]
              intro y hy
              rw [HK.out y hy]; rfl
            · exact HN.out j (by omega))
          go_wp2
          go_roundw
          case rel => exact ⟨k + 1, by omega, by go_num, HOKI, HBs, by omega⟩
          case measure => simp [intOf] <;> omega
    · obtain rfl : i = l.length := by omega
      have HV : Hid (slotsOk l = decide (l.length ≤ 6)) := Lib.hid (slots_ok_end HN.out)
      go_wp2
      go_ret
      exact ⟨ret_bool (by rw [HV.out]; simp; omega), HB.out⟩
end Go.Proofs.YthnimmagaocipaaGreatDoor
set_option linter.unusedVariables false
namespace Go.Proofs.YthnimmagaocipaaGreatDoor
open Go.ChangeShapes Go.WideShapes Go.ChangeAt Go.RowKit

def acctHead (a : AcctD) : Bool := acctIdB (aId a) && (inB (aLim a) 0 9007199254740992 && (inB (aMost a) 0 1000 && (inB (aSum a) 0 9007199254740992 && isMon (aPos a))))
def acctTail (a : AcctD) : Bool := holdsOk (aH a) && (ringOk (aR a) && (slotsOk (aS a) && decide (satVal (aPos a) (storedL (aH a)) ≤ aLim a)))
def acctOk (a : AcctD) : Bool := acctHead a && acctTail a
set_option maxRecDepth 100000 in
set_option maxHeartbeats 16000000 in
theorem specAcctOk_any (hi : Nat) (vh vc vs vl : Value) (a : AcctD) (w : World) (hz : acctSmall 1048576 a) (hbig : acctBig a) (h : AcctR.rd hi w (aCells a vh vc vs vl) a) (hh : hi ≤ w.heap.size) :
    Calls Tryz.prog 22 #[.agg #[.string (aId a), .int .i64 (aLim a), .int .i64 (aPos a), .int .i64 (aMost a), .int .i64 (aSum a), vh, .int .i64 (aR a).1, .int .i64 (aR a).2.1, vc, vs, vl]] w fun e w' => e = .returned (.bool (acctOk a)) ∧ Below w.heap.size w w' := by
  obtain ⟨vh0, vc0, vs0, vl0, hcs, r1, r2, r3, r4⟩ := acct_rd h
  simp only [aCells, List.cons.injEq, and_true, true_and] at hcs
  obtain ⟨rfl, rfl, rfl, rfl⟩ := hcs
  clear h
  obtain ⟨z1, z2, z3, z4, z5⟩ := hz
  obtain ⟨y0, y1, y1', y2, y3, y4, y5⟩ := hbig
  obtain ⟨id, lim, pos, most, sum, hs, ⟨sp, hd, cs, ss⟩, sl⟩ := a
  have HE : Hid (acctOk (id, lim, pos, most, sum, hs, (sp, hd, cs, ss), sl) = ((acctIdB id && (inB lim 0 9007199254740992 && (inB most 0 1000 && (inB sum 0 9007199254740992 && isMon pos)))) && (holdsOk hs && (ringOk (sp, hd, cs, ss) && (slotsOk sl && decide (satVal pos (storedL hs) ≤ lim)))))) := Lib.hid rfl
  simp only [aId, aLim, aPos, aMost, aSum, aH, aS] at r1 r2 r3 r4 z1 z2 z3 z4 z5 y0 y1 y1' y2 y3 y4 y5 ⊢
  obtain ⟨AH, cH, rfl, -⟩ := Rep.slice_form r1
  obtain ⟨AC, cC, rfl, -⟩ := r2.form
  obtain ⟨AS, cS, rfl, -⟩ := r3.form
  obtain ⟨AL, cL, rfl, -⟩ := Rep.slice_form r4
  have HQ1 := Lib.hid (fun W (hW : Below w.heap.size w W) => specHoldsOk_any hi _ hs W z1 y1' (Rep.below (R := HoldsR) r1 hW hh) (Nat.le_trans hh hW.size))
  have HQ2 := Lib.hid (fun W (hW : Below w.heap.size w W) => specRingOk_any hi _ _ (sp, hd, cs, ss) W (r2.below hW hh) (r3.below hW hh) (Nat.le_trans hh hW.size) z2 z3)
  have HQ3 := Lib.hid (fun W (hW : Below w.heap.size w W) => specSlotsOk_any hi _ sl W (by omega) (fun x hx => ⟨(y5 x hx).1, (y5 x hx).2.1⟩) (Rep.below (R := SlotsR) r4 hW hh) (Nat.le_trans hh hW.size))
  have HQ4 := Lib.hid (fun W (hW : Below w.heap.size w W) => specStored_any hi _ hs W z1 (Rep.below (R := HoldsR) r1 hW hh) (Nat.le_trans hh hW.size))
  have HQ5 := Lib.hid (fun W => specSat_any pos (storedL hs) W)
  have HI0 := Lib.hid (fun W => specAcctIdOk_any id W y0)
  have HI1 := Lib.hid (fun W => inB_any lim 0 9007199254740992 W)
  have HI2 := Lib.hid (fun W => inB_any most 0 1000 W)
  have HI3 := Lib.hid (fun W => inB_any sum 0 9007199254740992 W)
  have HI4 := Lib.hid (fun W => l01Money_any pos W)
  clear r1 r2 r3 r4 y0 y1 y1' y2 y3 y4 y5 z5
  generalize acctIdB id = b0 at HE HI0
  generalize inB lim 0 9007199254740992 = b1 at HE HI1
  generalize inB most 0 1000 = b2 at HE HI2
  generalize inB sum 0 9007199254740992 = b3 at HE HI3
  generalize isMon pos = b4 at HE HI4
  generalize holdsOk hs = t1 at HE HQ1
  generalize ringOk (sp, hd, cs, ss) = t2 at HE HQ2
  generalize slotsOk sl = t3 at HE HQ3
  generalize satVal pos (storedL hs) = sv at HE HQ5
  generalize storedL hs = st at HQ4 HQ5
  go_enter Tryz.func22, Tryz.ntmps22
  go_upto_region 1 with fail
  obtain ⟨W, hW⟩ : ∃ W, W = w.alloc (.cells #[.string id, .int .i64 lim, .int .i64 pos, .int .i64 most, .int .i64 sum, .slice AH hs.length cH, .int .i64 sp, .int .i64 hd, .slice AC cs.length cC, .slice AS ss.length cS, .slice AL sl.length cL] 50) := ⟨_, rfl⟩
  have bb : bk W w.heap.size 50 [.string id, .int .i64 lim, .int .i64 pos, .int .i64 most, .int .i64 sum, .slice AH hs.length cH, .int .i64 sp, .int .i64 hd, .slice AC cs.length cC, .slice AS ss.length cS, .slice AL sl.length cL] := by rw [hW]; exact bk.new w _ _
  have HBW : Hid (Below w.heap.size w W) := Lib.hid (by rw [hW]; exact (Below.refl _ _).alloc (Nat.le_refl _) _)
  have x0 : w.heap.size + 1 ≤ W.heap.size := by rw [hW]; simp
  rw [← hW]
  clear hW
  obtain ⟨⟨p0, p1, p2, p3, p4, p5, p6, p7, p8, p9, p10⟩, -⟩ := bb.eleven
  have B0 := Lib.hid bb
  clear bb
  go_wp2_with fail
  refine (HI0.out W).mono ?_
  rintro e W3 ⟨rfl, hb3⟩
  have x3 := hb3.size
  have HB3 : Hid (Below w.heap.size w W3) := Lib.hid (HBW.out.trans (hb3.mono (by omega)))
  have B3 := Lib.hid (B0.out.below hb3 (by omega))
  clear hb3 HBW p0 p1 p2 p3 p4 p5 p6 p7 p8 p9 p10 B0
  obtain ⟨⟨p0, p1, p2, p3, p4, p5, p6, p7, p8, p9, p10⟩, -⟩ := B3.out.eleven
  cases b0
  · have HN := Lib.hid (HE.out.trans (show _ = false by simp))
    go_wp2
    go_ret
    exact ⟨by rw [HN.out]; rfl, HB3.out⟩
  go_wp2_with fail
  refine (HI1.out _).mono ?_
  rintro e w1 ⟨rfl, rfl⟩
  cases b1
  · have HN := Lib.hid (HE.out.trans (show _ = false by simp))
    go_wp2
    go_ret
    exact ⟨by rw [HN.out]; rfl, HB3.out⟩
  go_wp2_with fail
  refine (HI2.out _).mono ?_
  rintro e w1 ⟨rfl, rfl⟩
  cases b2
  · have HN := Lib.hid (HE.out.trans (show _ = false by simp))
    go_wp2
    go_ret
    exact ⟨by rw [HN.out]; rfl, HB3.out⟩
  go_wp2_with fail
  refine (HI3.out _).mono ?_
  rintro e w1 ⟨rfl, rfl⟩
  cases b3
  · have HN := Lib.hid (HE.out.trans (show _ = false by simp))
    go_wp2
    go_ret
    exact ⟨by rw [HN.out]; rfl, HB3.out⟩
  go_wp2_with fail
  refine (HI4.out _).mono ?_
  rintro e w1 ⟨rfl, rfl⟩
  cases b4
  · have HN := Lib.hid (HE.out.trans (show _ = false by simp))
    go_wp2
    go_ret
    exact ⟨by rw [HN.out]; rfl, HB3.out⟩
  have HE3 : Hid (acctOk (id, lim, pos, most, sum, hs, (sp, hd, cs, ss), sl) = (t1 && (t2 && (t3 && decide (sv ≤ lim))))) := Lib.hid (by rw [HE.out]; rfl)
  clear HE HI0 HI1 HI2 HI3 HI4
  go_upto_region 3 with fail
  have HX : Hid (Ext W3 W3.drew) := Lib.hid (Ext.refl W3).drew
  have HBX : Hid (∀ W, Ext W3 W → Below w.heap.size w W) := Lib.hid fun W hW => HB3.out.trans (hW.below.mono (by omega))
  have P0 := Lib.hid p0
  have P1 := Lib.hid p1
  have P2 := Lib.hid p2
  have P3 := Lib.hid p3
  have P4 := Lib.hid p4
  have P5 := Lib.hid p5
  have P6 := Lib.hid p6
  have P7 := Lib.hid p7
  have P8 := Lib.hid p8
  have P9 := Lib.hid p9
  have P10 := Lib.hid p10
  clear p0 p1 p2 p3 p4 p5 p6 p7 p8 p9 p10
  cases t1
  · refine quiet_region (C := Ext W3) (by kernel_rfl) (by kernel_rfl) HX.out ?_
    repeat (first
      | go_big_quiet_skip
      | (go_big_quiet_want; go_big_quiet_op; go_big_quiet_on)
      | (go_big_quiet_want; go_big_quiet_op; apply Exists.intro; refine ⟨fun _ _ => rfl, ?_⟩; go_big_quiet_on)
      | (go_big_quiet_want
         apply Exists.intro
         refine ⟨fun W hW => ?_, ?_⟩
         (have q1 := hW.cell P1.out (by omega)
          have q2 := hW.cell P2.out (by omega)
          have q5 := hW.cell P5.out (by omega)
          have q6 := hW.cell P6.out (by omega)
          have q7 := hW.cell P7.out (by omega)
          have q8 := hW.cell P8.out (by omega)
          have q9 := hW.cell P9.out (by omega)
          have q10 := hW.cell P10.out (by omega)
          unfold Oper.quietAt
          go_simp
          rfl)
         simp only [Act.put, List.setIfInBounds_toArray, List.set_cons_zero, List.set_cons_succ]
         go_big_quiet_on)
      | (go_big_quiet_want
         apply Exists.intro
         refine ⟨fun W hW => ?_, ?_⟩
         (unfold Oper.quietAt
          go_simp
          go_at_call 53
          refine (HQ1.out W (HBX.out W hW)).mono ?_
          rintro e w4 ⟨rfl, hb4⟩
          exact ⟨rfl, hW.step hb4⟩)
         simp only [Act.put, List.setIfInBounds_toArray, List.set_cons_zero, List.set_cons_succ]
         go_big_quiet_on)
      | (go_big_quiet_want
         apply Exists.intro
         refine ⟨fun W hW => ?_, ?_⟩
         (unfold Oper.quietAt
          go_simp
          go_at_call 54
          refine (HQ2.out W (HBX.out W hW)).mono ?_
          rintro e w4 ⟨rfl, hb4⟩
          exact ⟨rfl, hW.step hb4⟩)
         simp only [Act.put, List.setIfInBounds_toArray, List.set_cons_zero, List.set_cons_succ]
         go_big_quiet_on)
      | (go_big_quiet_want
         apply Exists.intro
         refine ⟨fun W hW => ?_, ?_⟩
         (unfold Oper.quietAt
          go_simp
          go_at_call 55
          refine (HQ3.out W (HBX.out W hW)).mono ?_
          rintro e w4 ⟨rfl, hb4⟩
          exact ⟨rfl, hW.step hb4⟩)
         simp only [Act.put, List.setIfInBounds_toArray, List.set_cons_zero, List.set_cons_succ]
         go_big_quiet_on)
      | (go_big_quiet_want
         apply Exists.intro
         refine ⟨fun W hW => ?_, ?_⟩
         (unfold Oper.quietAt
          go_simp
          go_at_call 57
          refine (HQ4.out W (HBX.out W hW)).mono ?_
          rintro e w4 ⟨rfl, hb4⟩
          exact ⟨rfl, hW.step hb4⟩)
         simp only [Act.put, List.setIfInBounds_toArray, List.set_cons_zero, List.set_cons_succ]
         go_big_quiet_on)
      | (go_big_quiet_want
         apply Exists.intro
         refine ⟨fun W hW => ?_, ?_⟩
         (unfold Oper.quietAt
          go_simp
          go_at_call 56
          refine (HQ5.out W).mono ?_
          rintro e w4 ⟨rfl, rfl⟩
          exact ⟨rfl, hW⟩)
         simp only [Act.put, List.setIfInBounds_toArray, List.set_cons_zero, List.set_cons_succ]
         go_big_quiet_on))
    refine wpQuiet_nil ?_
    intro W4 hW4
    go_wp2
    go_ret
    exact ⟨by rw [HE3.out]; rfl, HBX.out W4 hW4⟩
  cases t2
  · refine quiet_region (C := Ext W3) (by kernel_rfl) (by kernel_rfl) HX.out ?_
    repeat (first
      | go_big_quiet_skip
      | (go_big_quiet_want; go_big_quiet_op; go_big_quiet_on)
      | (go_big_quiet_want; go_big_quiet_op; apply Exists.intro; refine ⟨fun _ _ => rfl, ?_⟩; go_big_quiet_on)
      | (go_big_quiet_want
         apply Exists.intro
         refine ⟨fun W hW => ?_, ?_⟩
         (have q1 := hW.cell P1.out (by omega)
          have q2 := hW.cell P2.out (by omega)
          have q5 := hW.cell P5.out (by omega)
          have q6 := hW.cell P6.out (by omega)
          have q7 := hW.cell P7.out (by omega)
          have q8 := hW.cell P8.out (by omega)
          have q9 := hW.cell P9.out (by omega)
          have q10 := hW.cell P10.out (by omega)
          unfold Oper.quietAt
          go_simp
          rfl)
         simp only [Act.put, List.setIfInBounds_toArray, List.set_cons_zero, List.set_cons_succ]
         go_big_quiet_on)
      | (go_big_quiet_want
         apply Exists.intro
         refine ⟨fun W hW => ?_, ?_⟩
         (unfold Oper.quietAt
          go_simp
          go_at_call 53
          refine (HQ1.out W (HBX.out W hW)).mono ?_
          rintro e w4 ⟨rfl, hb4⟩
          exact ⟨rfl, hW.step hb4⟩)
         simp only [Act.put, List.setIfInBounds_toArray, List.set_cons_zero, List.set_cons_succ]
         go_big_quiet_on)
      | (go_big_quiet_want
         apply Exists.intro
         refine ⟨fun W hW => ?_, ?_⟩
         (unfold Oper.quietAt
          go_simp
          go_at_call 54
          refine (HQ2.out W (HBX.out W hW)).mono ?_
          rintro e w4 ⟨rfl, hb4⟩
          exact ⟨rfl, hW.step hb4⟩)
         simp only [Act.put, List.setIfInBounds_toArray, List.set_cons_zero, List.set_cons_succ]
         go_big_quiet_on)
      | (go_big_quiet_want
         apply Exists.intro
         refine ⟨fun W hW => ?_, ?_⟩
         (unfold Oper.quietAt
          go_simp
          go_at_call 55
          refine (HQ3.out W (HBX.out W hW)).mono ?_
          rintro e w4 ⟨rfl, hb4⟩
          exact ⟨rfl, hW.step hb4⟩)
         simp only [Act.put, List.setIfInBounds_toArray, List.set_cons_zero, List.set_cons_succ]
         go_big_quiet_on)
      | (go_big_quiet_want
         apply Exists.intro
         refine ⟨fun W hW => ?_, ?_⟩
         (unfold Oper.quietAt
          go_simp
          go_at_call 57
          refine (HQ4.out W (HBX.out W hW)).mono ?_
          rintro e w4 ⟨rfl, hb4⟩
          exact ⟨rfl, hW.step hb4⟩)
         simp only [Act.put, List.setIfInBounds_toArray, List.set_cons_zero, List.set_cons_succ]
         go_big_quiet_on)
      | (go_big_quiet_want
         apply Exists.intro
         refine ⟨fun W hW => ?_, ?_⟩
         (unfold Oper.quietAt
          go_simp
          go_at_call 56
          refine (HQ5.out W).mono ?_
          rintro e w4 ⟨rfl, rfl⟩
          exact ⟨rfl, hW⟩)
         simp only [Act.put, List.setIfInBounds_toArray, List.set_cons_zero, List.set_cons_succ]
         go_big_quiet_on))
    refine wpQuiet_nil ?_
    intro W4 hW4
    go_wp2
    go_ret
    exact ⟨by rw [HE3.out]; rfl, HBX.out W4 hW4⟩
  cases t3
  · refine quiet_region (C := Ext W3) (by kernel_rfl) (by kernel_rfl) HX.out ?_
    repeat (first
      | go_big_quiet_skip
      | (go_big_quiet_want; go_big_quiet_op; go_big_quiet_on)
      | (go_big_quiet_want; go_big_quiet_op; apply Exists.intro; refine ⟨fun _ _ => rfl, ?_⟩; go_big_quiet_on)
      | (go_big_quiet_want
         apply Exists.intro
         refine ⟨fun W hW => ?_, ?_⟩
         (have q1 := hW.cell P1.out (by omega)
          have q2 := hW.cell P2.out (by omega)
          have q5 := hW.cell P5.out (by omega)
          have q6 := hW.cell P6.out (by omega)
          have q7 := hW.cell P7.out (by omega)
          have q8 := hW.cell P8.out (by omega)
          have q9 := hW.cell P9.out (by omega)
          have q10 := hW.cell P10.out (by omega)
          unfold Oper.quietAt
          go_simp
          rfl)
         simp only [Act.put, List.setIfInBounds_toArray, List.set_cons_zero, List.set_cons_succ]
         go_big_quiet_on)
      | (go_big_quiet_want
         apply Exists.intro
         refine ⟨fun W hW => ?_, ?_⟩
         (unfold Oper.quietAt
          go_simp
          go_at_call 53
          refine (HQ1.out W (HBX.out W hW)).mono ?_
          rintro e w4 ⟨rfl, hb4⟩
          exact ⟨rfl, hW.step hb4⟩)
         simp only [Act.put, List.setIfInBounds_toArray, List.set_cons_zero, List.set_cons_succ]
         go_big_quiet_on)
      | (go_big_quiet_want
         apply Exists.intro
         refine ⟨fun W hW => ?_, ?_⟩
         (unfold Oper.quietAt
          go_simp
          go_at_call 54
          refine (HQ2.out W (HBX.out W hW)).mono ?_
          rintro e w4 ⟨rfl, hb4⟩
          exact ⟨rfl, hW.step hb4⟩)
         simp only [Act.put, List.setIfInBounds_toArray, List.set_cons_zero, List.set_cons_succ]
         go_big_quiet_on)
      | (go_big_quiet_want
         apply Exists.intro
         refine ⟨fun W hW => ?_, ?_⟩
         (unfold Oper.quietAt
          go_simp
          go_at_call 55
          refine (HQ3.out W (HBX.out W hW)).mono ?_
          rintro e w4 ⟨rfl, hb4⟩
          exact ⟨rfl, hW.step hb4⟩)
         simp only [Act.put, List.setIfInBounds_toArray, List.set_cons_zero, List.set_cons_succ]
         go_big_quiet_on)
      | (go_big_quiet_want
         apply Exists.intro
         refine ⟨fun W hW => ?_, ?_⟩
         (unfold Oper.quietAt
          go_simp
          go_at_call 57
          refine (HQ4.out W (HBX.out W hW)).mono ?_
          rintro e w4 ⟨rfl, hb4⟩
          exact ⟨rfl, hW.step hb4⟩)
         simp only [Act.put, List.setIfInBounds_toArray, List.set_cons_zero, List.set_cons_succ]
         go_big_quiet_on)
      | (go_big_quiet_want
         apply Exists.intro
         refine ⟨fun W hW => ?_, ?_⟩
         (unfold Oper.quietAt
          go_simp
          go_at_call 56
          refine (HQ5.out W).mono ?_
          rintro e w4 ⟨rfl, rfl⟩
          exact ⟨rfl, hW⟩)
         simp only [Act.put, List.setIfInBounds_toArray, List.set_cons_zero, List.set_cons_succ]
         go_big_quiet_on))
    refine wpQuiet_nil ?_
    intro W4 hW4
    go_wp2
    go_ret
    exact ⟨by rw [HE3.out]; rfl, HBX.out W4 hW4⟩
  by_cases hle : sv ≤ lim
  · refine quiet_region (C := Ext W3) (by kernel_rfl) (by kernel_rfl) HX.out ?_
    repeat (first
      | go_big_quiet_skip
      | (go_big_quiet_want; go_big_quiet_op; go_big_quiet_on)
      | (go_big_quiet_want; go_big_quiet_op; apply Exists.intro; refine ⟨fun _ _ => rfl, ?_⟩; go_big_quiet_on)
      | (go_big_quiet_want
         apply Exists.intro
         refine ⟨fun W hW => ?_, ?_⟩
         (have q1 := hW.cell P1.out (by omega)
          have q2 := hW.cell P2.out (by omega)
          have q5 := hW.cell P5.out (by omega)
          have q6 := hW.cell P6.out (by omega)
          have q7 := hW.cell P7.out (by omega)
          have q8 := hW.cell P8.out (by omega)
          have q9 := hW.cell P9.out (by omega)
          have q10 := hW.cell P10.out (by omega)
          unfold Oper.quietAt
          go_simp
          rfl)
         simp only [Act.put, List.setIfInBounds_toArray, List.set_cons_zero, List.set_cons_succ]
         go_big_quiet_on)
      | (go_big_quiet_want
         apply Exists.intro
         refine ⟨fun W hW => ?_, ?_⟩
         (unfold Oper.quietAt
          go_simp
          go_at_call 53
          refine (HQ1.out W (HBX.out W hW)).mono ?_
          rintro e w4 ⟨rfl, hb4⟩
          exact ⟨rfl, hW.step hb4⟩)
         simp only [Act.put, List.setIfInBounds_toArray, List.set_cons_zero, List.set_cons_succ]
         go_big_quiet_on)
      | (go_big_quiet_want
         apply Exists.intro
         refine ⟨fun W hW => ?_, ?_⟩
         (unfold Oper.quietAt
          go_simp
          go_at_call 54
          refine (HQ2.out W (HBX.out W hW)).mono ?_
          rintro e w4 ⟨rfl, hb4⟩
          exact ⟨rfl, hW.step hb4⟩)
         simp only [Act.put, List.setIfInBounds_toArray, List.set_cons_zero, List.set_cons_succ]
         go_big_quiet_on)
      | (go_big_quiet_want
         apply Exists.intro
         refine ⟨fun W hW => ?_, ?_⟩
         (unfold Oper.quietAt
          go_simp
          go_at_call 55
          refine (HQ3.out W (HBX.out W hW)).mono ?_
          rintro e w4 ⟨rfl, hb4⟩
          exact ⟨rfl, hW.step hb4⟩)
         simp only [Act.put, List.setIfInBounds_toArray, List.set_cons_zero, List.set_cons_succ]
         go_big_quiet_on)
      | (go_big_quiet_want
         apply Exists.intro
         refine ⟨fun W hW => ?_, ?_⟩
         (unfold Oper.quietAt
          go_simp
          go_at_call 57
          refine (HQ4.out W (HBX.out W hW)).mono ?_
          rintro e w4 ⟨rfl, hb4⟩
          exact ⟨rfl, hW.step hb4⟩)
         simp only [Act.put, List.setIfInBounds_toArray, List.set_cons_zero, List.set_cons_succ]
         go_big_quiet_on)
      | (go_big_quiet_want
         apply Exists.intro
         refine ⟨fun W hW => ?_, ?_⟩
         (unfold Oper.quietAt
          go_simp
          go_at_call 56
          refine (HQ5.out W).mono ?_
          rintro e w4 ⟨rfl, rfl⟩
          exact ⟨rfl, hW⟩)
         simp only [Act.put, List.setIfInBounds_toArray, List.set_cons_zero, List.set_cons_succ]
         go_big_quiet_on))
    refine wpQuiet_nil ?_
    intro W4 hW4
    go_wp2
    go_ret
    exact ⟨by rw [HE3.out]; simp [hle], HBX.out W4 hW4⟩
  · refine quiet_region (C := Ext W3) (by kernel_rfl) (by kernel_rfl) HX.out ?_
    repeat (first
      | go_big_quiet_skip
      | (go_big_quiet_want; go_big_quiet_op; go_big_quiet_on)
      | (go_big_quiet_want; go_big_quiet_op; apply Exists.intro; refine ⟨fun _ _ => rfl, ?_⟩; go_big_quiet_on)
      | (go_big_quiet_want
         apply Exists.intro
         refine ⟨fun W hW => ?_, ?_⟩
         (have q1 := hW.cell P1.out (by omega)
          have q2 := hW.cell P2.out (by omega)
          have q5 := hW.cell P5.out (by omega)
          have q6 := hW.cell P6.out (by omega)
          have q7 := hW.cell P7.out (by omega)
          have q8 := hW.cell P8.out (by omega)
          have q9 := hW.cell P9.out (by omega)
          have q10 := hW.cell P10.out (by omega)
          unfold Oper.quietAt
          go_simp
          rfl)
         simp only [Act.put, List.setIfInBounds_toArray, List.set_cons_zero, List.set_cons_succ]
         go_big_quiet_on)
      | (go_big_quiet_want
         apply Exists.intro
         refine ⟨fun W hW => ?_, ?_⟩
         (unfold Oper.quietAt
          go_simp
          go_at_call 53
          refine (HQ1.out W (HBX.out W hW)).mono ?_
          rintro e w4 ⟨rfl, hb4⟩
          exact ⟨rfl, hW.step hb4⟩)
         simp only [Act.put, List.setIfInBounds_toArray, List.set_cons_zero, List.set_cons_succ]
         go_big_quiet_on)
      | (go_big_quiet_want
         apply Exists.intro
         refine ⟨fun W hW => ?_, ?_⟩
         (unfold Oper.quietAt
          go_simp
          go_at_call 54
          refine (HQ2.out W (HBX.out W hW)).mono ?_
          rintro e w4 ⟨rfl, hb4⟩
          exact ⟨rfl, hW.step hb4⟩)
         simp only [Act.put, List.setIfInBounds_toArray, List.set_cons_zero, List.set_cons_succ]
         go_big_quiet_on)
      | (go_big_quiet_want
         apply Exists.intro
         refine ⟨fun W hW => ?_, ?_⟩
         (unfold Oper.quietAt
          go_simp
          go_at_call 55
          refine (HQ3.out W (HBX.out W hW)).mono ?_
          rintro e w4 ⟨rfl, hb4⟩
          exact ⟨rfl, hW.step hb4⟩)
         simp only [Act.put, List.setIfInBounds_toArray, List.set_cons_zero, List.set_cons_succ]
         go_big_quiet_on)
      | (go_big_quiet_want
         apply Exists.intro
         refine ⟨fun W hW => ?_, ?_⟩
         (unfold Oper.quietAt
          go_simp
          go_at_call 57
          refine (HQ4.out W (HBX.out W hW)).mono ?_
          rintro e w4 ⟨rfl, hb4⟩
          exact ⟨rfl, hW.step hb4⟩)
         simp only [Act.put, List.setIfInBounds_toArray, List.set_cons_zero, List.set_cons_succ]
         go_big_quiet_on)
      | (go_big_quiet_want
         apply Exists.intro
         refine ⟨fun W hW => ?_, ?_⟩
         (unfold Oper.quietAt
          go_simp
          go_at_call 56
          refine (HQ5.out W).mono ?_
          rintro e w4 ⟨rfl, rfl⟩
          exact ⟨rfl, hW⟩)
         simp only [Act.put, List.setIfInBounds_toArray, List.set_cons_zero, List.set_cons_succ]
         go_big_quiet_on))
    refine wpQuiet_nil ?_
    intro W4 hW4
    go_wp2
    go_ret
    exact ⟨by rw [HE3.out]; simp [hle], HBX.out W4 hW4⟩
end Go.Proofs.YthnimmagaocipaaGreatDoor
set_option linter.unusedVariables false
namespace Go.Proofs.YthnimmagaocipaaGreatDoor
open Go.ChangeShapes Go.WideShapes Go.ChangeAt Go.RowKit

abbrev nilAcct : AcctD := (⟨#[]⟩, 0, 0, 0, 0, [], (0, 0, [], []), [])
/-- account i is right, and after the one before it -/
def bookAtOk (l : BookD) (i : Nat) : Bool := acctOk (l.getD i nilAcct) && (decide (i = 0) || strLt (aId (l.getD (i - 1) nilAcct)) (aId (l.getD i nilAcct)))
def bookOk (l : BookD) : Bool := (List.range l.length).all (bookAtOk l) && decide (l.length ≤ 6)
set_option maxRecDepth 100000 in
theorem getA_of {l : BookD} {i : Nat} {x : AcctD} (h : l[i]? = some x) : l.getD i nilAcct = x := by rw [List.getD_eq_getElem?_getD, h]; rfl
set_option maxRecDepth 100000 in
theorem book_ok_not {l : BookD} {i : Nat} (hi : i < l.length) (h : bookAtOk l i = false) : bookOk l = false := by
  unfold bookOk
  have : (List.range l.length).all (bookAtOk l) = false := by
    rw [List.all_eq_false]
    exact ⟨i, List.mem_range.2 hi, by rw [h]; exact Bool.false_ne_true⟩
  rw [this]; rfl
set_option maxRecDepth 100000 in
theorem book_ok_end {l : BookD} (h : (List.range l.length).all (bookAtOk l) = true) : bookOk l = decide (l.length ≤ 6) := by
  unfold bookOk; rw [h]; rfl
set_option maxRecDepth 100000 in
theorem book_snoc {l : BookD} {i : Nat} (h : (List.range i).all (bookAtOk l) = true) (h1 : bookAtOk l i = true) : (List.range (i + 1)).all (bookAtOk l) = true := by
  rw [List.range_succ, List.all_append, h]
  simp [h1]
set_option maxRecDepth 100000 in
set_option maxHeartbeats 16000000 in
theorem specBookOk_any (hi : Nat) (v : Value) (l : BookD) (w : World) (hs : bookSmall 1048576 l) (hbig : ∀ x ∈ l, acctBig x) (h : AcctsR.rd hi w [v] l) (hh : hi ≤ w.heap.size) :
    Calls Tryz.prog 7 #[.agg #[v]] w fun e w' => e = .returned (.bool (bookOk l)) ∧ Below w.heap.size w w' := by
  obtain ⟨A, c, rfl, hc, h⟩ := accts_rd h
  obtain ⟨hn, hs⟩ := hs
  have HR := Lib.hid h
  have HS := Lib.hid hs
  have HSB := Lib.hid hbig
  clear h hs hbig
  have bb := bk.new w 29 [.slice A l.length c]
  have hbb : Below w.heap.size w (w.alloc (.cells #[.slice A l.length c] 29)) := (Below.refl _ _).alloc (Nat.le_refl _) _
  have hzz : (w.alloc (.cells #[.slice A l.length c] 29)).heap.size = w.heap.size + 1 := by simp
  go_enter Tryz.func7, Tryz.ntmps7
  go_upto_region 1 with fail
  obtain ⟨W0, hW0⟩ : ∃ W0, W0 = w.alloc (.cells #[.slice A l.length c] 29) := ⟨_, rfl⟩
  rw [← hW0] at bb hbb hzz ⊢
  clear hW0
  have qb0 := bb.cell 0
  simp only [List.getElem?_cons_zero] at qb0
  have HBB := Lib.hid hbb
  have QB := Lib.hid bb
  clear bb hbb
  go_wp2
  go_loopw [8] (fun iv wr => ∃ i : Nat, i ≤ l.length ∧ iv = .int .i64 i ∧ Hid ((List.range i).all (bookAtOk l) = true) ∧ Hid (Below W0.heap.size W0 wr) ∧ W0.heap.size ≤ wr.heap.size) (fun iv _ => l.length - (intOf iv).toNat)
  case atStart => exact ⟨0, Nat.zero_le _, rfl, Lib.hid rfl, Lib.hid (Below.refl _ _), Nat.le_refl _⟩
  case round =>
    obtain ⟨i, hi', rfl, HN, HBr, hz⟩ := hrel
    have HB : Hid (Below w.heap.size w wr) := Lib.hid (HBB.out.trans (HBr.out.mono (by omega)))
    have qb1 := (QB.out.below HBr.out (by omega)).cell 0
    simp only [List.getElem?_cons_zero] at qb1
    by_cases hin : i < l.length
    · obtain ⟨x, hx⟩ : ∃ x, l[i]? = some x := ⟨_, List.getElem?_eq_getElem hin⟩
      obtain ⟨p, hp⟩ : ∃ p, l[i - 1]? = some p := ⟨_, List.getElem?_eq_getElem (by omega : i - 1 < l.length)⟩
      have HXD : Hid (bookAtOk l i = (acctOk x && (decide (i = 0) || Op.bytesLess (aId p).toList (aId x).toList))) := Lib.hid (by
        unfold bookAtOk strLt
        rw [getA_of hx, getA_of hp])
      obtain ⟨b, off, AH, cH, AC, cC, AS, cS, AL, cL, rfl, hbl, hat, hrd⟩ := HR.out i x hx
      obtain ⟨b', off', _, _, _, _, _, _, _, _, e', -, hat', -⟩ := HR.out (i - 1) p hp
      simp only [Option.some.injEq, Addr.mk.injEq, and_true] at e'
      obtain ⟨rfl, rfl⟩ := e'
      have hat := hat.below HB.out (show b < w.heap.size by omega)
      have hat' := hat'.below HB.out (show b < w.heap.size by omega)
      obtain ⟨d0, d1, d2, d3, d4, d5, d6, d7, d8, d9, d10⟩ := hat.eleven
      have e0 := hat'.eleven.1
      have HOK0 := Lib.hid (fun W (hW : Below wr.heap.size wr W) => specAcctOk_any hi _ _ _ _ x W (HS.out x (List.mem_of_getElem? hx)) (HSB.out x (List.mem_of_getElem? hx)) (Rep.below (R := AcctR) hrd (HB.out.trans (hW.mono (by omega))) hh) (by have := hW.size; omega))
      have g1 : (i : Int) < (l.length : Int) := by omega
      have g2 : 0 ≤ (i : Int) := by omega
      obtain ⟨d, hd⟩ : ∃ d : Nat, d = i - 1 := ⟨_, rfl⟩
      rw [← hd] at e0
      have HDI := Lib.hid hd
      clear hx hp hd hat hat' hrd
      go_upto_region 4 with fail
      obtain ⟨W3, hW3⟩ : ∃ W3, W3 = wr.alloc (.cells #[.string (aId x), .int .i64 (aLim x), .int .i64 (aPos x), .int .i64 (aMost x), .int .i64 (aSum x), .slice AH (aH x).length cH, .int .i64 (aR x).1, .int .i64 (aR x).2.1, .slice AC (aR x).2.2.1.length cC, .slice AS (aR x).2.2.2.length cS, .slice AL (aS x).length cL] 50) := ⟨_, rfl⟩
      have b3 : bk W3 wr.heap.size 50 [.string (aId x), .int .i64 (aLim x), .int .i64 (aPos x), .int .i64 (aMost x), .int .i64 (aSum x), .slice AH (aH x).length cH, .int .i64 (aR x).1, .int .i64 (aR x).2.1, .slice AC (aR x).2.2.1.length cC, .slice AS (aR x).2.2.2.length cS, .slice AL (aS x).length cL] := by rw [hW3]; exact bk.new wr _ _
      have hb3 : Below wr.heap.size wr W3 := by rw [hW3]; exact (Below.refl _ _).alloc (Nat.le_refl _) _
      rw [← hW3]
      clear hW3
      have z3 := b3.lt
      have HB3 : Hid (Below w.heap.size w W3) := Lib.hid (HB.out.trans (hb3.mono (by omega)))
      have HB4 : Hid (Below W0.heap.size W0 W3) := Lib.hid (HBr.out.trans (hb3.mono (by omega)))
      have P0 := Lib.hid (b3.cell 0)
      have P1 := Lib.hid (b3.cell 1)
      have P2 := Lib.hid (b3.cell 2)
      have P3 := Lib.hid (b3.cell 3)
      have P4 := Lib.hid (b3.cell 4)
      have P5 := Lib.hid (b3.cell 5)
      have P6 := Lib.hid (b3.cell 6)
      have P7 := Lib.hid (b3.cell 7)
      have P8 := Lib.hid (b3.cell 8)
      have P9 := Lib.hid (b3.cell 9)
      have P10 := Lib.hid (b3.cell 10)
      simp only [List.getElem?_cons_zero, List.getElem?_cons_succ] at P0 P1 P2 P3 P4 P5 P6 P7 P8 P9 P10
      have D0 := Lib.hid ((hb3.cell (p := ⟨b, off + d * 11, none⟩) (show b < wr.heap.size by omega)).trans e0)
      have PB := Lib.hid ((hb3.cell (p := ⟨w.heap.size, 0, none⟩) (show w.heap.size < wr.heap.size by omega)).trans qb1)
      have HOK := Lib.hid (fun W (hW : Ext W3 W) => HOK0.out W (hb3.trans (hW.below.mono (by have := hb3.size; omega))))
      clear b3 hb3 d0 d1 d2 d3 d4 d5 d6 d7 d8 d9 d10 e0 qb1 HOK0
      obtain ⟨ok, hok⟩ : ∃ ok, ok = bookAtOk l i := ⟨_, rfl⟩
      rw [← hok] at HXD
      have HOKI : Hid (bookAtOk l i = ok) := Lib.hid hok.symm
      clear hok
      generalize acctOk x = hk at HOK HXD
      go_cut [31] (fun cv wx => cv = .bool (!(hk && (decide (i = 0) || Op.bytesLess (aId p).toList (aId x).toList))) ∧ Below W3.heap.size W3 wx)
      case first =>
        have HX : Hid (Ext W3 W3.drew) := Lib.hid (Ext.refl W3).drew
        cases hk
        · refine quiet_region (C := Ext W3) (by kernel_rfl) (by kernel_rfl) HX.out ?_
          repeat (first
            | go_big_quiet_skip
            | (go_big_quiet_want; go_big_quiet_op; go_big_quiet_on)
            | (go_big_quiet_want; go_big_quiet_op; apply Exists.intro; refine ⟨fun _ _ => rfl, ?_⟩; go_big_quiet_on)
            | (go_big_quiet_want
               apply Exists.intro
               refine ⟨fun W hW => ?_, ?_⟩
               (have q0 := hW.cell P0.out z3
                have q1 := hW.cell P1.out z3
                have q2 := hW.cell P2.out z3
                have q3 := hW.cell P3.out z3
                have q4 := hW.cell P4.out z3
                have q5 := hW.cell P5.out z3
                have q6 := hW.cell P6.out z3
                have q7 := hW.cell P7.out z3
                have q8 := hW.cell P8.out z3
                have q9 := hW.cell P9.out z3
                have q10 := hW.cell P10.out z3
                have qd := hW.cell D0.out (by omega)
                have qb := hW.cell PB.out (by omega)
                unfold Oper.quietAt
                go_simp
                rfl)
               simp only [Act.put, List.setIfInBounds_toArray, List.set_cons_zero, List.set_cons_succ]
               go_big_quiet_on)
            | (go_big_quiet_want
               apply Exists.intro
               refine ⟨fun W hW => ?_, ?_⟩
               (unfold Oper.quietAt
                go_simp
                go_at_call 22
                (with_reducible refine (HOK.out W hW).mono ?_)
                rintro e w4 ⟨rfl, hb4⟩
                exact ⟨rfl, hW.step hb4⟩)
               simp only [Act.put, List.setIfInBounds_toArray, List.set_cons_zero, List.set_cons_succ]
               go_big_quiet_on)
            | fail)
          refine wpQuiet_nil ?_
          intro W4 hW4
          go_wp2
          go_meet
          exact ⟨rfl, hW4⟩
        by_cases hi0 : i = 0
        · have HI0 : Hid (decide (0 < i) = false) := Lib.hid (decide_eq_false (by omega))
          have HV : Hid (decide (i = 0) = true) := Lib.hid (decide_eq_true hi0)
          clear hi0
          refine quiet_region (C := Ext W3) (by kernel_rfl) (by kernel_rfl) HX.out ?_
          repeat (first
            | go_big_quiet_skip
            | (go_big_quiet_want; go_big_quiet_op; go_big_quiet_on)
            | (go_big_quiet_want; go_big_quiet_op; apply Exists.intro; refine ⟨fun _ _ => rfl, ?_⟩; go_big_quiet_on)
            | (go_big_quiet_want
               apply Exists.intro
               refine ⟨fun W hW => ?_, ?_⟩
               (have q0 := hW.cell P0.out z3
                have q1 := hW.cell P1.out z3
                have q2 := hW.cell P2.out z3
                have q3 := hW.cell P3.out z3
                have q4 := hW.cell P4.out z3
                have q5 := hW.cell P5.out z3
                have q6 := hW.cell P6.out z3
                have q7 := hW.cell P7.out z3
                have q8 := hW.cell P8.out z3
                have q9 := hW.cell P9.out z3
                have q10 := hW.cell P10.out z3
                have qd := hW.cell D0.out (by omega)
                have qb := hW.cell PB.out (by omega)
                unfold Oper.quietAt
                go_simp
                rfl)
               simp only [Act.put, List.setIfInBounds_toArray, List.set_cons_zero, List.set_cons_succ]
               go_big_quiet_on)
            | (go_big_quiet_want
               apply Exists.intro
               refine ⟨fun W hW => ?_, ?_⟩
               (unfold Oper.quietAt
                go_simp
                go_at_call 22
                (with_reducible refine (HOK.out W hW).mono ?_)
                rintro e w4 ⟨rfl, hb4⟩
                exact ⟨rfl, hW.step hb4⟩)
               simp only [Act.put, List.setIfInBounds_toArray, List.set_cons_zero, List.set_cons_succ]
               go_big_quiet_on)
            | fail)
          rw [HI0.out]
          repeat (first
            | go_big_quiet_skip
            | (go_big_quiet_want; go_big_quiet_op; go_big_quiet_on)
            | (go_big_quiet_want; go_big_quiet_op; apply Exists.intro; refine ⟨fun _ _ => rfl, ?_⟩; go_big_quiet_on))
          refine wpQuiet_nil ?_
          intro W4 hW4
          go_wp2
          go_meet
          exact ⟨by rw [HV.out]; rfl, hW4⟩
        have hi1 : decide (0 < i) = true := decide_eq_true (by omega)
        have HV : Hid (decide (i = 0) = false) := Lib.hid (decide_eq_false hi0)
        have gw : IntKind.i64.wrap ((i : Int) - 1) = (d : Int) := by have := HDI.out; rw [IntKind.wrap_i64]; omega
        have gw2 : wrap64 ((i : Int) - 1) = (d : Int) := by have := HDI.out; unfold wrap64; omega
        have gd : (d : Int) < (l.length : Int) := by have := HDI.out; omega
        have gd0 : 0 ≤ (d : Int) := by omega
        clear hi0
        cases hbl : Op.bytesLess (aId p).toList (aId x).toList
        · refine quiet_region (C := Ext W3) (by kernel_rfl) (by kernel_rfl) HX.out ?_
          repeat (first
            | go_big_quiet_skip
            | (go_big_quiet_want; go_big_quiet_op; go_big_quiet_on)
            | (go_big_quiet_want; go_big_quiet_op; apply Exists.intro; refine ⟨fun _ _ => rfl, ?_⟩; go_big_quiet_on)
            | (go_big_quiet_want
               apply Exists.intro
               refine ⟨fun W hW => ?_, ?_⟩
               (have q0 := hW.cell P0.out z3
                have q1 := hW.cell P1.out z3
                have q2 := hW.cell P2.out z3
                have q3 := hW.cell P3.out z3
                have q4 := hW.cell P4.out z3
                have q5 := hW.cell P5.out z3
                have q6 := hW.cell P6.out z3
                have q7 := hW.cell P7.out z3
                have q8 := hW.cell P8.out z3
                have q9 := hW.cell P9.out z3
                have q10 := hW.cell P10.out z3
                have qd := hW.cell D0.out (by omega)
                have qb := hW.cell PB.out (by omega)
                unfold Oper.quietAt
                go_simp
                rfl)
               simp only [Act.put, List.setIfInBounds_toArray, List.set_cons_zero, List.set_cons_succ]
               go_big_quiet_on)
            | (go_big_quiet_want
               apply Exists.intro
               refine ⟨fun W hW => ?_, ?_⟩
               (unfold Oper.quietAt
                go_simp
                go_at_call 22
                (with_reducible refine (HOK.out W hW).mono ?_)
                rintro e w4 ⟨rfl, hb4⟩
                exact ⟨rfl, hW.step hb4⟩)
               simp only [Act.put, List.setIfInBounds_toArray, List.set_cons_zero, List.set_cons_succ]
               go_big_quiet_on)
            | fail)
          refine wpQuiet_nil ?_
          intro W4 hW4
          go_wp2
          go_meet
          exact ⟨by rw [HV.out, hbl]; rfl, hW4⟩
        · refine quiet_region (C := Ext W3) (by kernel_rfl) (by kernel_rfl) HX.out ?_
          repeat (first
            | go_big_quiet_skip
            | (go_big_quiet_want; go_big_quiet_op; go_big_quiet_on)
            | (go_big_quiet_want; go_big_quiet_op; apply Exists.intro; refine ⟨fun _ _ => rfl, ?_⟩; go_big_quiet_on)
            | (go_big_quiet_want
               apply Exists.intro
               refine ⟨fun W hW => ?_, ?_⟩
               (have q0 := hW.cell P0.out z3
                have q1 := hW.cell P1.out z3
                have q2 := hW.cell P2.out z3
                have q3 := hW.cell P3.out z3
                have q4 := hW.cell P4.out z3
                have q5 := hW.cell P5.out z3
                have q6 := hW.cell P6.out z3
                have q7 := hW.cell P7.out z3
                have q8 := hW.cell P8.out z3
                have q9 := hW.cell P9.out z3
                have q10 := hW.cell P10.out z3
                have qd := hW.cell D0.out (by omega)
                have qb := hW.cell PB.out (by omega)
                unfold Oper.quietAt
                go_simp
                rfl)
               simp only [Act.put, List.setIfInBounds_toArray, List.set_cons_zero, List.set_cons_succ]
               go_big_quiet_on)
            | (go_big_quiet_want
               apply Exists.intro
               refine ⟨fun W hW => ?_, ?_⟩
               (unfold Oper.quietAt
                go_simp
                go_at_call 22
                (with_reducible refine (HOK.out W hW).mono ?_)
                rintro e w4 ⟨rfl, hb4⟩
                exact ⟨rfl, hW.step hb4⟩)
               simp only [Act.put, List.setIfInBounds_toArray, List.set_cons_zero, List.set_cons_succ]
               go_big_quiet_on)
            | fail)
          refine wpQuiet_nil ?_
          intro W4 hW4
          go_wp2
          go_meet
          exact ⟨by rw [HV.out, hbl]; rfl, hW4⟩
      case rest =>
        obtain ⟨rfl, hbc⟩ := hcut
        have hz3 : wr.heap.size ≤ W3.heap.size := Nat.le_of_lt z3
        have HBC : Hid (Below w.heap.size w wc) := Lib.hid (HB3.out.trans (hbc.mono (by omega)))
        have HBD : Hid (Below W0.heap.size W0 wc) := Lib.hid (HB4.out.trans (hbc.mono (by omega)))
        have zc : W0.heap.size ≤ wc.heap.size := HBD.out.size
        rw [← HXD.out]
        cases ok
        · have HV : Hid (bookOk l = false) := Lib.hid (book_ok_not hin HOKI.out)
          go_wp2
          go_ret
          exact ⟨ret_bool HV.out.symm, HBC.out⟩
        · go_wp2
          go_roundw
          case rel => exact ⟨i + 1, by omega, by go_num, Lib.hid (book_snoc HN.out HOKI.out), HBD, zc⟩
          case measure => simp [intOf] <;> omega
    · obtain rfl : i = l.length := by omega
      have HV : Hid (bookOk l = decide (l.length ≤ 6)) := Lib.hid (book_ok_end HN.out)
      go_wp2
      go_ret
      exact ⟨ret_bool (by rw [HV.out]; simp; omega), HB.out⟩
end Go.Proofs.YthnimmagaocipaaGreatDoor
set_option linter.unusedVariables false
namespace Go.Proofs.YthnimmagaocipaaGreatDoor
open Go.ChangeShapes Go.WideShapes Go.ChangeAt Go.RowKit

set_option maxRecDepth 100000 in
theorem flat_len {α : Type} {k : Nat} {enc : α → List Value} (hk : ∀ x, (enc x).length = k) (l : List α) : (l.flatMap enc).length = l.length * k := by
  induction l with
  | nil => simp
  | cons x l ih => rw [List.flatMap_cons, List.length_append, hk, ih, List.length_cons, Nat.add_mul]; omega
set_option maxRecDepth 100000 in
theorem flat_take {α : Type} {k : Nat} {enc : α → List Value} (hk : ∀ x, (enc x).length = k) (l : List α) : ∀ n : Nat, (l.flatMap enc).take (n * k) = (l.take n).flatMap enc := by
  induction l with
  | nil => intro n; simp
  | cons x l ih =>
    intro n
    cases n with
    | zero => simp
    | succ n =>
      rw [List.flatMap_cons, List.take_succ_cons, List.flatMap_cons, ← ih n, List.take_append, hk, List.take_of_length_le (by rw [hk, Nat.add_mul]; omega), Nat.add_mul, Nat.one_mul, Nat.add_sub_cancel]
set_option maxRecDepth 100000 in
theorem flat_drop {α : Type} {k : Nat} {enc : α → List Value} (hk : ∀ x, (enc x).length = k) (l : List α) : ∀ n : Nat, (l.flatMap enc).drop (n * k) = (l.drop n).flatMap enc := by
  induction l with
  | nil => intro n; simp
  | cons x l ih =>
    intro n
    cases n with
    | zero => simp
    | succ n =>
      rw [List.flatMap_cons, List.drop_succ_cons, ← ih n, List.drop_append, hk, List.drop_of_length_le (by rw [hk, Nat.add_mul]; omega), Nat.add_mul, Nat.one_mul, Nat.add_sub_cancel, List.nil_append]
set_option maxRecDepth 100000 in
theorem take_over {β : Type} (L M : List β) (a n : Nat) (h : a + M.length ≤ n) (hn : n ≤ L.length) : (L.take a ++ M ++ L.drop (a + M.length)).take n = (L.take n).take a ++ M ++ (L.take n).drop (a + M.length) := by
  have hX : (L.take a ++ M).length = a + M.length := by rw [List.length_append, List.length_take]; omega
  rw [List.take_append, List.take_of_length_le (by rw [hX]; exact h), hX, List.take_take, Nat.min_eq_left (by omega), List.drop_take]
set_option maxRecDepth 100000 in
/-- cells laid over such a row -/
theorem owE.over {α : Type} {T : TypeId} {k B g c : Nat} {enc : α → List Value} {w : World} {l : List α} (h : owE T k enc B w (.slice (some ⟨g, 0, none⟩) l.length c) l) (hk : ∀ x, (enc x).length = k) (m : List α) (d : Nat) (hd : d + m.length ≤ l.length) :
    ∃ cur : Array Value, w.heap[g]? = some (.cells cur T (0, 0)) ∧ d * k + (m.flatMap enc).length ≤ cur.size ∧ cur.toList.take (l.length * k) = l.flatMap enc ∧
      owE T k enc B (w.setRow g (cur.toList.take (d * k) ++ m.flatMap enc ++ cur.toList.drop (d * k + (m.flatMap enc).length)).toArray) (.slice (some ⟨g, 0, none⟩) l.length c) (l.take d ++ m ++ l.drop (d + m.length)) := by
  obtain ⟨h1, h2⟩ := h
  rcases h2 with ⟨h', _⟩ | ⟨g', cap, cur, h', hB, hg, hn, hm, hs, ht⟩
  · simp at h'
  simp only [Value.slice.injEq, Option.some.injEq, Addr.mk.injEq, and_true, true_and] at h'
  obtain ⟨rfl, rfl⟩ := h'
  have hml := flat_len hk m
  have hmul : (d + m.length) * k ≤ l.length * k := Nat.mul_le_mul_right k hd
  have hcap : l.length * k ≤ c * k := Nat.mul_le_mul_right k hn
  rw [Nat.add_mul] at hmul
  refine ⟨cur, hg, by omega, ht, ?_, Or.inr ⟨g, c, _, ?_, hB, setRow_heap w g cur _ T _ hg, ?_, hm, ?_, ?_⟩⟩
  · rw [flat_len hk]
  · have e : l.length = (l.take d ++ m ++ l.drop (d + m.length)).length := by
      simp only [List.length_append, List.length_take, List.length_drop]
      omega
    rw [← e]
  · simp only [List.length_append, List.length_take, List.length_drop]
    omega
  · simp only [List.size_toArray, List.length_append, List.length_take, List.length_drop, Array.length_toList]
    omega
  · have e : (l.take d ++ m ++ l.drop (d + m.length)).length = l.length := by
      simp only [List.length_append, List.length_take, List.length_drop]
      omega
    rw [e, take_over _ _ _ _ (by omega) (by simp; omega), ht, flat_take hk, hml, ← Nat.add_mul, flat_drop hk, List.flatMap_append, List.flatMap_append]
set_option maxRecDepth 100000 in
theorem setRow_turned {w : World} {g : Nat} (cs : Array Value) : Turned g (g + 1) w (w.setRow g cs) := ⟨rfl, rfl, rfl, by simp [World.setRow], fun b hb h => setRow_other w g b cs (by omega)⟩
section
variable {P : Program} {ops : Array Oper} {rest : List Oper} {o : Oper} {a : Act} {Q : Exit → Act → World → Prop}
end
end Go.Proofs.YthnimmagaocipaaGreatDoor
set_option linter.unusedVariables false
namespace Go.Proofs.YthnimmagaocipaaGreatDoor
open Go.ChangeShapes Go.WideShapes Go.ChangeAt Go.RowKit

set_option maxRecDepth 100000 in
/-- append(s, src...) onto a row of structs of the call's own -/
theorem app_rows {P : Program} {ops : Array Oper} {rest : List Oper} {o : Oper} {a : Act} {Q : Exit → Act → World → Prop} {α : Type} (enc : α → List Value) (k : Nat) (hk : ∀ x, (enc x).length = k) (hk0 : 0 < k) (hone : ∀ x, ∀ u ∈ enc x, u.oneCell' = true)
    (t e : TypeId) (zs : Array Value) (bytes : Nat) (ht : P.underlying t = some (.slice e)) (hinfo : (P.info? e).map (fun i => (i.zero.map (·.cells), i.size, i.bytes)) = some (some zs, k, bytes)) (hzs : zs.size = k)
    (s x : Operand) (hgd : o.guard = none) (ho : o.op = .call { callee := .builtin .append, args := #[s, x], argTypes := #[t, t] })
    (base : Nat) (W : World) (v : Value) (l m : List α) (A0 : Option Addr) (c0 : Nat) (hs : a.eval s = v) (hx : a.eval x = .slice A0 m.length c0) (hown : owE e k enc base W v l)
    (hsrc : ∀ j y, m[j]? = some y → ∃ b off, A0 = some ⟨b, off, none⟩ ∧ atL W b (off + j * k) (enc y)) (h63 : l.length + m.length ≤ maxLen) (hbytes : (l.length + m.length) * bytes ≤ 140737488355328) (hbase : base ≤ W.heap.size)
    (h : ∀ A c w', owE e k enc base w' (.slice A (l.length + m.length) c) (l ++ m) → W.grownBy w' v.ownBlock → Below base W w' → wpList P ops Q rest (a.put o.dst (.slice A (l.length + m.length) c)) w') : wpList P ops Q (o :: rest) a W := by
  obtain ⟨i, hi, hxx⟩ := Option.map_eq_some_iff.1 hinfo
  simp only [Prod.mk.injEq] at hxx
  obtain ⟨hz, hsize, hby⟩ := hxx
  obtain ⟨z, hzz, hzc⟩ := Option.map_eq_some_iff.1 hz
  have key : ∃ v' w', (Builtin.append_ #[t, t] o.type #[v, .slice A0 m.length c0]).run P W = .ok v' w' ∧ owE e k enc base w' v' (l ++ m) ∧ W.grownBy w' v.ownBlock := by
    cases A0 with
    | none =>
      have hm : m = [] := by
        cases m with
        | nil => rfl
        | cons y m => obtain ⟨b, off, e', -⟩ := hsrc 0 y rfl; cases e'
      subst hm
      exact ⟨v, W, run_app_void W base t o.type e i ht hi v l.length _ k hown c0, by simpa using hown, World.grownBy.refl W _⟩
    | some ad =>
      have hcells : ∀ j u, (m.flatMap enc)[j]? = some u → W.cell? (ad.add j) = some u := by
        intro j u hu
        have hlt := (List.getElem?_eq_some_iff.1 hu).1
        have hlen := flat_len hk m
        rw [hlen] at hlt
        have hq : j / k < m.length := by rw [Nat.div_lt_iff_lt_mul hk0]; exact hlt
        have hr : j % k < k := Nat.mod_lt _ hk0
        have hj : j = j / k * k + j % k := by rw [Nat.mul_comm]; exact (Nat.div_add_mod j k).symm
        obtain ⟨b, off, e', hat⟩ := hsrc (j / k) _ (List.getElem?_eq_getElem hq)
        obtain rfl := Option.some.inj e'
        obtain ⟨u', hu'⟩ : ∃ u', (enc m[j / k])[j % k]? = some u' := ⟨_, List.getElem?_eq_getElem (show j % k < (enc m[j / k]).length by have := hk m[j / k]; omega)⟩
        have h2 := flat_at hk m (j / k) _ (List.getElem?_eq_getElem hq) (j % k) u' hu'
        rw [← hj, hu] at h2
        obtain rfl := Option.some.inj h2
        have h3 := hat (j % k) u hu'
        rw [add_off, show off + j = off + j / k * k + j % k by omega]
        exact h3
      obtain ⟨v', w1, hr, hown', hgrow, -, -⟩ := run_append_own_at (P := P) W base t o.type e i z k bytes ht hi hzz hsize hby (by rw [hzc, hzs]) hk0 v l.length (l.flatMap enc) hown ad m.length c0 (m.flatMap enc) (flat_len hk m) hcells (fun u hu => by obtain ⟨y, -, hy⟩ := List.mem_flatMap.1 hu; exact hone y u hy) h63 hbytes hbase
      refine ⟨v', w1, hr, ?_, hgrow⟩
      unfold owE
      rw [List.length_append, List.flatMap_append]
      exact hown'
  obtain ⟨v', w1, hr, ho', hgrow⟩ := key
  obtain ⟨A, c, rfl, hc'⟩ := ho'.form
  rw [List.length_append] at ho' hr
  refine wpList_plain hgd fun Kn hKn => ?_
  unfold Oper.wp execOp
  simp only [ho, resolve, invoke, builtin, Sem.run_bind, Sem.run_pure, Result.andThen_ok, List.map_toArray, List.map_cons, List.map_nil, hs, hx, hr]
  exact hKn _ _ (h A c w1 ho' hgrow ((Below.refl base W).grown hgrow hbase fun k hk => (hown.lt k hk).1))
end Go.Proofs.YthnimmagaocipaaGreatDoor
set_option linter.unusedVariables false
namespace Go.Proofs.YthnimmagaocipaaGreatDoor
open Go.ChangeShapes Go.WideShapes Go.ChangeAt Go.RowKit

set_option maxRecDepth 100000 in
/-- element i of a row laid anew -/
theorem filled.put {w : World} {b off k n i m : Nat} {E E' : Nat → List Value} (h : filled w b off k n m E) (hi : i < n) (hE : ∀ j, j < m → (E j).length = k) (hE' : (E' i).length = k) (hs : ∀ j, j < m → j ≠ i → E' j = E j) : filled (setsAt w b (off + i * k) (E' i)) b off k n m E' := by
  have hik := mul_step (k := k) hi
  refine ⟨setsAt_room _ _ _ _ _ _ h.room, fun j hj => ?_⟩
  by_cases e : j = i
  · subst e
    exact setsAt_at _ _ _ _ (h.room.sub (by omega) (by omega))
  · rw [hs j hj e]
    have hl := hE j hj
    rcases Nat.lt_or_gt_of_ne e with h1 | h1
    · have hjk := mul_step (k := k) h1
      exact setsAt_far _ _ _ _ _ _ (h.at_ j hj) (.inl (by omega))
    · have hjk := mul_step (k := k) h1
      exact setsAt_far _ _ _ _ _ _ (h.at_ j hj) (.inr (by omega))
set_option maxRecDepth 100000 in
/-- its first elements, where only what is behind them was laid anew -/
theorem filled.ahead {w : World} {b k n i : Nat} {E : Nat → List Value} (h : filled w b 0 k n n E) (hi : i ≤ n) (hE : ∀ j, j < n → (E j).length = k) (us : List Value) : filled (setsAt w b (i * k) us) b 0 k i i E := by
  have hle : i * k ≤ n * k := Nat.mul_le_mul_right k hi
  refine ⟨(setsAt_room _ _ _ _ _ _ h.room).sub (Nat.le_refl _) (by omega), fun j hj => ?_⟩
  have hjk := mul_step (k := k) hj
  exact setsAt_far _ _ _ _ _ _ (h.at_ j (by omega)) (.inl (by rw [hE j (by omega)]; omega))
section
variable {P : Program} {ops : Array Oper} {rest : List Oper} {o : Oper} {a : Act} {Q : Exit → Act → World → Prop}
end
end Go.Proofs.YthnimmagaocipaaGreatDoor
set_option linter.unusedVariables false
namespace Go.Proofs.YthnimmagaocipaaGreatDoor
open Go.ChangeShapes Go.WideShapes Go.ChangeAt Go.RowKit

set_option maxRecDepth 100000 in
theorem bl_irrefl : ∀ a : List UInt8, Op.bytesLess a a = false
  | [] => rfl
  | x :: a => by
    have h := bl_irrefl a
    simp [Op.bytesLess, h]
set_option maxRecDepth 100000 in
/-- the three ways in which two strings lie -/
theorem bl_cmp : ∀ a b : List UInt8, (Lib.compareBytes a b = -1 ∧ Op.bytesLess a b = true ∧ Op.bytesLess b a = false ∧ a ≠ b) ∨ (Lib.compareBytes a b = 0 ∧ a = b) ∨ (Lib.compareBytes a b = 1 ∧ Op.bytesLess b a = true ∧ Op.bytesLess a b = false ∧ a ≠ b)
  | [], [] => .inr (.inl ⟨rfl, rfl⟩)
  | [], _ :: _ => .inl ⟨rfl, rfl, rfl, by simp⟩
  | _ :: _, [] => .inr (.inr ⟨rfl, rfl, rfl, by simp⟩)
  | x :: a, y :: b => by
    unfold Lib.compareBytes
    by_cases h1 : x < y
    · have h2 : ¬ y < x := UInt8.lt_asymm h1
      have h3 : x ≠ y := UInt8.ne_of_lt h1
      exact .inl ⟨by simp [h1], by simp [Op.bytesLess, h1], by simp [Op.bytesLess, h2, h3.symm], by simp [h3]⟩
    · by_cases h2 : y < x
      · have h3 : y ≠ x := UInt8.ne_of_lt h2
        exact .inr (.inr ⟨by simp [h1, h2], by simp [Op.bytesLess, h2], by simp [Op.bytesLess, h1, h3.symm], by simp [h3.symm]⟩)
      · obtain rfl : x = y := UInt8.le_antisymm (UInt8.not_lt.1 h2) (UInt8.not_lt.1 h1)
        have ih := bl_cmp a b
        simpa [Op.bytesLess, h1] using ih
set_option maxRecDepth 100000 in
theorem str_cmp (a b : ByteArray) : (Lib.compareBytes a.data.toList b.data.toList = -1 ∧ strLt a b = true ∧ strLt b a = false ∧ a ≠ b) ∨ (Lib.compareBytes a.data.toList b.data.toList = 0 ∧ a = b) ∨ (Lib.compareBytes a.data.toList b.data.toList = 1 ∧ strLt b a = true ∧ strLt a b = false ∧ a ≠ b) := by
  have h := bl_cmp a.toList b.toList
  unfold strLt
  have e1 : a.data.toList = a.toList := (Lib.toList_data a).symm
  have e2 : b.data.toList = b.toList := (Lib.toList_data b).symm
  rw [e1, e2]
  rcases h with ⟨h1, h2, h3, h4⟩ | ⟨h1, h2⟩ | ⟨h1, h2, h3, h4⟩
  · exact .inl ⟨h1, h2, h3, fun e => h4 (by rw [e])⟩
  · exact .inr (.inl ⟨h1, str_eq_list.1 h2⟩)
  · exact .inr (.inr ⟨h1, h2, h3, fun e => h4 (by rw [e])⟩)
set_option maxRecDepth 100000 in
theorem strLt_irrefl (a : ByteArray) : strLt a a = false := bl_irrefl _
/-- the id before element i -/
def befH (l : List HoldD) (i : Nat) : ByteArray := if i = 0 then ⟨#[]⟩ else (l.getD (i - 1) noH).1
set_option maxRecDepth 100000 in
theorem idOk_ne {s : ByteArray} (h : idOk s = true) : strLt ⟨#[]⟩ s = true := by
  unfold idOk inB at h
  simp only [Bool.and_eq_true, decide_eq_true_eq] at h
  have h1 : s ≠ ⟨#[]⟩ := fun e => by rw [e] at h; have h2 : (1 : Int) ≤ ((⟨#[]⟩ : ByteArray).size : Int) := h.2.1; have e2 : (⟨#[]⟩ : ByteArray).size = 0 := rfl; omega
  rcases str_cmp ⟨#[]⟩ s with ⟨_, h2, _⟩ | ⟨_, h2⟩ | ⟨_, h2, _⟩
  · exact h2
  · exact absurd h2.symm h1
  · unfold strLt at h2
    have e : (⟨#[]⟩ : ByteArray).toList = [] := by rw [Lib.toList_data]
    rw [e] at h2
    cases s.toList <;> simp [Op.bytesLess] at h2
set_option maxRecDepth 100000 in
theorem holdAt_bef {l : List HoldD} {i : Nat} {x : HoldD} (hx : l[i]? = some x) : holdAtOk l i = (holdOk x && strLt (befH l i) x.1) := by
  unfold holdAtOk befH
  have e : l.getD i noH = x := by rw [List.getD_eq_getElem?_getD, hx]; rfl
  rw [e]
  cases hk : holdOk x
  · rfl
  · have hid : idOk x.1 = true := by unfold holdOk at hk; simp only [Bool.and_eq_true] at hk; exact hk.1
    by_cases h0 : i = 0
    · subst h0; simp [idOk_ne hid]
    · simp [h0]
set_option maxRecDepth 100000 in
theorem befH_next {l : List HoldD} {i : Nat} {x : HoldD} (hx : l[i]? = some x) : befH l (i + 1) = x.1 := by
  unfold befH
  rw [if_neg (by omega), Nat.add_sub_cancel, List.getD_eq_getElem?_getD, hx]; rfl
end Go.Proofs.YthnimmagaocipaaGreatDoor
set_option linter.unusedVariables false
namespace Go.Proofs.YthnimmagaocipaaGreatDoor
open Go.ChangeShapes Go.WideShapes Go.ChangeAt Go.RowKit

end Go.Proofs.YthnimmagaocipaaGreatDoor
set_option linter.unusedVariables false
namespace Go.Proofs.YthnimmagaocipaaGreatDoor
open Go.ChangeShapes Go.WideShapes Go.ChangeAt Go.RowKit

/-- the first account with this id -/
def findA (l : BookD) (id : ByteArray) : Int := match l.findIdx? (fun x => decide (aId x = id)) with | some i => (i : Int) | none => -1
set_option maxRecDepth 100000 in
theorem findA_none {l : BookD} {id : ByteArray} (h : ∀ x ∈ l, aId x ≠ id) : findA l id = -1 := by
  unfold findA
  rw [List.findIdx?_eq_none_iff.2 (fun x hx => by simpa using h x hx)]
set_option maxRecDepth 100000 in
theorem findA_some {l : BookD} {id : ByteArray} {i : Nat} {x : AcctD} (hx : l[i]? = some x) (he : aId x = id) (h : ∀ y ∈ l.take i, aId y ≠ id) : findA l id = (i : Int) := by
  obtain ⟨hi, rfl⟩ := List.getElem?_eq_some_iff.1 hx
  have h1 : l.findIdx? (fun x => decide (aId x = id)) = some i := by
    rw [List.findIdx?_eq_some_iff_getElem]
    refine ⟨hi, by simpa using he, fun j hj => ?_⟩
    have hm : l[j] ∈ l.take i := by rw [List.mem_take_iff_getElem]; exact ⟨j, by omega, rfl⟩
    simpa using h _ hm
  unfold findA
  rw [h1]
set_option maxRecDepth 100000 in
theorem findA_cases (l : BookD) (id : ByteArray) : (findA l id = -1 ∧ ∀ x ∈ l, aId x ≠ id) ∨ ∃ (i : Nat) (x : AcctD), l[i]? = some x ∧ findA l id = (i : Int) ∧ aId x = id ∧ ∀ y ∈ l.take i, aId y ≠ id := by
  unfold findA
  cases h : l.findIdx? (fun x => decide (aId x = id)) with
  | none => exact .inl ⟨rfl, fun x hx => by simpa using List.findIdx?_eq_none_iff.1 h x hx⟩
  | some i =>
    obtain ⟨hi, h1, h2⟩ := List.findIdx?_eq_some_iff_getElem.1 h
    refine .inr ⟨i, l[i], List.getElem?_eq_getElem hi, rfl, by simpa using h1, fun y hy => ?_⟩
    obtain ⟨k, hk, rfl⟩ := List.mem_take_iff_getElem.1 hy
    have := h2 k (by omega)
    simpa using this
set_option maxRecDepth 100000 in
theorem takeA_next {l : BookD} {id : ByteArray} {i : Nat} {x : AcctD} (hx : l[i]? = some x) (he : aId x ≠ id) (h : ∀ y ∈ l.take i, aId y ≠ id) : ∀ y ∈ l.take (i + 1), aId y ≠ id := by
  obtain ⟨h5, h6⟩ := List.getElem?_eq_some_iff.1 hx
  rw [List.take_succ_eq_append_getElem h5, h6]
  intro y hy
  rcases List.mem_append.1 hy with hy | hy
  · exact h y hy
  · rw [List.mem_singleton.1 hy]; exact he
set_option maxRecDepth 100000 in
set_option maxHeartbeats 4000000 in
theorem specBookAt_any (hi : Nat) (v : Value) (l : BookD) (id : ByteArray) (w : World) (hn : l.length ≤ 1048576) (h : AcctsR.rd hi w [v] l) (hh : hi ≤ w.heap.size) :
    Calls Tryz.prog 35 #[.agg #[v], .string id] w fun e w' => e = .returned (.int .i64 (findA l id)) ∧ Below w.heap.size w w' := by
  obtain ⟨A, c, rfl, hc, h⟩ := accts_rd h
  have HR := Lib.hid h
  clear h
  have HB0 : Hid (Below w.heap.size w (w.alloc (.cells #[.slice A l.length c] 29))) := Lib.hid ((Below.refl _ _).alloc (Nat.le_refl _) _)
  go_enter Tryz.func35, Tryz.ntmps35
  go_wp2
  go_loopw [10] (fun iv wr => ∃ i : Nat, i ≤ l.length ∧ iv = .int .i64 i ∧ Hid (∀ y ∈ l.take i, aId y ≠ id) ∧ Hid (Below w.heap.size w wr) ∧ w.heap.size ≤ wr.heap.size) (fun iv _ => l.length - (intOf iv).toNat)
  case atStart => exact ⟨0, Nat.zero_le _, rfl, Lib.hid (by simp), HB0, HB0.out.size⟩
  case round =>
    obtain ⟨i, hi', rfl, HN, HB, hz⟩ := hrel
    by_cases hin : i < l.length
    · obtain ⟨x, hx⟩ : ∃ x, l[i]? = some x := ⟨_, List.getElem?_eq_getElem hin⟩
      obtain ⟨b, off, AH, cH, AC, cC, AS, cS, AL, cL, rfl, hbl, hat, hrd⟩ := HR.out i x hx
      have hat := hat.below HB.out (show b < w.heap.size by omega)
      obtain ⟨d0, d1, d2, d3, d4, d5, d6, d7, d8, d9, d10⟩ := hat.eleven
      have g1 : (i : Int) < (l.length : Int) := by omega
      have g2 : 0 ≤ (i : Int) := by omega
      have HB2 : Hid (∀ o, Below w.heap.size w (wr.alloc o)) := Lib.hid fun o => HB.out.alloc hz o
      have HYES := Lib.hid (fun he => findA_some hx he HN.out)
      have HNO := Lib.hid (fun he => takeA_next (id := id) hx he HN.out)
      clear hx hat hrd
      by_cases he : aId x = id
      · have hel : ((aId x).toList == id.toList) = true := by rw [he]; simp
        have HV := Lib.hid (HYES.out he)
        clear he
        go_wp2
        go_ret
        exact ⟨ret_int HV.out.symm, HB2.out _⟩
      · have hel : ((aId x).toList == id.toList) = false := by simpa using fun e => he (str_eq_list.1 e)
        have hel2 : ¬ (aId x).toList = id.toList := fun e => he (str_eq_list.1 e)
        have HN2 := Lib.hid (HNO.out he)
        clear he
        go_wp2
        go_roundw
        case rel => exact ⟨i + 1, by omega, by go_num, HN2, Lib.hid (HB2.out _), by simp; omega⟩
        case measure => simp [intOf] <;> omega
    · obtain rfl : i = l.length := by omega
      have HV : Hid (findA l id = -1) := Lib.hid (findA_none (by have := HN.out; rwa [List.take_length] at this))
      go_wp2
      go_ret
      exact ⟨ret_int HV.out.symm, HB.out⟩
set_option maxRecDepth 100000 in
theorem says_at (id : ByteArray) (B : Nat) (W : World) (x : AcctD) (vh vc vs vl : Value) (AH AC AS AL : Option Addr) (cH cC cS cL nH nC nS nL : Nat) (e1 : vh = .slice AH nH cH) (e2 : vc = .slice AC nC cC) (e3 : vs = .slice AS nS cS) (e4 : vl = .slice AL nL cL) (hb : bk W B 9 [.string id]) :
    Calls Tryz.prog 80 #[.agg #[.string (aId x), .int .i64 (aLim x), .int .i64 (aPos x), .int .i64 (aMost x), .int .i64 (aSum x), vh, .int .i64 (aR x).1, .int .i64 (aR x).2.1, vc, vs, vl], .pointer (some ⟨B, 0, none⟩)] W fun e w' => e = .returned (.bool (decide (aId x = id))) ∧ Below W.heap.size W w' := by
  subst e1 e2 e3 e4
  have HB0 : Hid (∀ o, Below W.heap.size W (W.alloc o)) := Lib.hid fun o => (Below.refl _ _).alloc (Nat.le_refl _) o
  have c0 : ∀ o, (W.alloc o).cell? ⟨B, 0, none⟩ = some (.string id) := fun o => (hb.alloc o).cell 0
  clear hb
  have HE : Hid (((aId x).toList == id.toList) = decide (aId x = id)) := Lib.hid (by
    by_cases h : aId x = id
    · rw [h]; simp
    · rw [decide_eq_false h]; simpa using fun e => h (str_eq_list.1 e))
  go_enter Tryz.func80, Tryz.ntmps80
  go_wp2
  go_ret
  exact ⟨ret_bool HE.out, HB0.out _⟩
set_option maxRecDepth 100000 in
set_option maxHeartbeats 4000000 in
theorem indexAccts_any (id : ByteArray) (B : Nat) (hi : Nat) (v : Value) (l : BookD) (w : World) (hbk : bk w B 9 [.string id]) (hn : l.length ≤ 1048576) (h : AcctsR.rd hi w [v] l) (hh : hi ≤ w.heap.size) :
    Calls Tryz.prog 79 #[v, .func (.func 80) #[] #[.pointer (some ⟨B, 0, none⟩)]] w fun e w' => e = .returned (.int .i64 (findA l id)) ∧ Below w.heap.size w w' := by
  obtain ⟨A, c, rfl, hc, h⟩ := accts_rd h
  have eg := Go.Proofs.enters_of Tryz.func80 (by kernel_rfl) rfl
  have HR := Lib.hid h
  have HK := Lib.hid hbk
  have hBw := hbk.lt
  clear h hbk
  go_enter Tryz.func79, Tryz.ntmps79
  go_wp2
  go_loopw [8] (fun iv wr => ∃ i : Nat, i ≤ l.length ∧ iv = .int .i64 i ∧ Hid (∀ y ∈ l.take i, aId y ≠ id) ∧ Hid (Below w.heap.size w wr) ∧ w.heap.size ≤ wr.heap.size) (fun iv _ => l.length - (intOf iv).toNat)
  case atStart => exact ⟨0, Nat.zero_le _, rfl, Lib.hid (by simp), Lib.hid (Below.refl _ _), Nat.le_refl _⟩
  case round =>
    obtain ⟨i, hi', rfl, HN, HB, hz⟩ := hrel
    by_cases hin : i < l.length
    · obtain ⟨x, hx⟩ : ∃ x, l[i]? = some x := ⟨_, List.getElem?_eq_getElem hin⟩
      obtain ⟨b, off, AH, cH, AC, cC, AS, cS, AL, cL, rfl, hbl, hat, hrd⟩ := HR.out i x hx
      have hat := hat.below HB.out (show b < w.heap.size by omega)
      obtain ⟨d0, d1, d2, d3, d4, d5, d6, d7, d8, d9, d10⟩ := hat.eleven
      have HC := Lib.hid (says_at id B wr x _ _ _ _ AH AC AS AL cH cC cS cL (aH x).length (aR x).2.2.1.length (aR x).2.2.2.length (aS x).length rfl rfl rfl rfl (HK.out.below HB.out hBw))
      have HYES := Lib.hid (fun he => findA_some hx he HN.out)
      have HNO := Lib.hid (fun he => takeA_next (id := id) hx he HN.out)
      clear hx hat hrd
      have g1 : (i : Int) < (l.length : Int) := by omega
      have g2 : 0 ≤ (i : Int) := by omega
      obtain ⟨px, hpx⟩ : ∃ px, px = decide (aId x = id) := ⟨_, rfl⟩
      rw [← hpx] at HC
      have HPX := Lib.hid hpx
      clear hpx
      go_wp2_with fail
      refine HC.out.mono ?_
      rintro e w1 ⟨rfl, hb1⟩
      have z1 := hb1.size
      have HB1 : Hid (Below w.heap.size w w1) := Lib.hid (HB.out.trans (hb1.mono (by omega)))
      clear hb1 d0 d1 d2 d3 d4 d5 d6 d7 d8 d9 d10
      cases px
      · have HN2 := Lib.hid (HNO.out (of_decide_eq_false HPX.out.symm))
        go_wp2
        go_roundw
        case rel => exact ⟨i + 1, by omega, by go_num, HN2, HB1, by omega⟩
        case measure => simp [intOf] <;> omega
      · have HV := Lib.hid (HYES.out (of_decide_eq_true HPX.out.symm))
        go_wp2
        go_ret
        exact ⟨ret_int HV.out.symm, HB1.out⟩
    · obtain rfl : i = l.length := by omega
      have HV : Hid (findA l id = -1) := Lib.hid (findA_none (by have := HN.out; rwa [List.take_length] at this))
      go_wp2
      go_ret
      exact ⟨ret_int HV.out.symm, HB.out⟩
set_option maxRecDepth 100000 in
set_option maxHeartbeats 1600000 in
theorem implBookAt_any (hi : Nat) (v : Value) (l : BookD) (id : ByteArray) (w : World) (hn : l.length ≤ 1048576) (h : AcctsR.rd hi w [v] l) (hh : hi ≤ w.heap.size) :
    Calls Tryz.prog 41 #[.agg #[v], .string id] w fun e w' => e = .returned (.int .i64 (findA l id)) ∧ Below w.heap.size w w' := by
  obtain ⟨A, c, rfl, hc⟩ := Rep.slice_form h
  obtain ⟨W, hW⟩ : ∃ W, W = (w.alloc (.cells #[.slice A l.length c] 29)).alloc (.cells #[.string id] 9) := ⟨_, rfl⟩
  have b1 : bk W (w.heap.size + 1) 9 [.string id] := by rw [hW]; simpa using bk.new (w.alloc _) _ _
  have b0 : bk W w.heap.size 29 [.slice A l.length c] := by rw [hW]; exact (bk.new w _ _).alloc _
  have HB0 : Hid (Below w.heap.size w W) := Lib.hid (by rw [hW]; exact ((Below.refl _ _).alloc (Nat.le_refl _) _).alloc (by simp) _)
  have HQ := Lib.hid (indexAccts_any id (w.heap.size + 1) hi _ l W b1 hn (Rep.below (R := AcctsR) h HB0.out hh) (Nat.le_trans hh HB0.out.size))
  have q0 := b0.cell 0
  simp only [List.getElem?_cons_zero] at q0
  clear h b0 b1
  go_enter Tryz.func41, Tryz.ntmps41
  go_upto_region 1 with fail
  rw [← hW]
  clear hW
  go_wp2_with fail
  refine HQ.out.mono ?_
  rintro e w2 ⟨rfl, hb2⟩
  have HB2 : Hid (Below w.heap.size w w2) := Lib.hid (HB0.out.trans (hb2.mono HB0.out.size))
  clear hb2
  go_wp2
  go_ret
  exact ⟨rfl, HB2.out⟩
end Go.Proofs.YthnimmagaocipaaGreatDoor
set_option linter.unusedVariables false
namespace Go.Proofs.YthnimmagaocipaaGreatDoor
open Go.ChangeShapes Go.WideShapes Go.ChangeAt Go.RowKit

set_option maxRecDepth 100000 in
theorem infoAcct : (Tryz.prog.info? 50).map (fun i => (i.zero.map (·.cells), i.size, i.bytes)) = some (some #[.string ⟨#[]⟩, .int .i64 0, .int .i64 0, .int .i64 0, .int .i64 0, .slice none 0 0, .int .i64 0, .int .i64 0, .slice none 0 0, .slice none 0 0, .slice none 0 0], 11, 160) := by kernel_rfl
set_option maxRecDepth 100000 in
theorem AcctR_k : AcctR.k = 11 := rfl
/-- the first elements of a made row of accounts stand -/
structure bookGrow (lo : Nat) (w : World) (g n : Nat) (l : BookD) : Prop where
  row : ∃ xs p q, RowI AcctIv lo w.heap.size w g 0 xs p q ∧ xs.map (·.2) = l
  room : roomL w g 0 (n * 11)
set_option maxRecDepth 100000 in
theorem bookGrow.start {w : World} {lo g n : Nat} (h : roomL w g 0 (n * 11)) (h1 : lo ≤ g) (h2 : g < w.heap.size) : bookGrow lo w g n [] := ⟨⟨[], _, _, RowI.nil _ w 0 ⟨h1, h2⟩, rfl⟩, h⟩
set_option maxRecDepth 100000 in
theorem bookGrow.next {w w2 : World} {lo g n : Nat} {l : BookD} {x : AcctD} {vh vc vs vl : Value} (h : bookGrow lo w g n l) (hb : Below w.heap.size w w2) (hn : l.length < n) (hg : g < w.heap.size) (hI : AcctI w.heap.size w2.heap.size w2 vh vc vs vl x) :
    bookGrow lo (put11 w2 g (l.length * 11) (.string (aId x)) (.int .i64 (aLim x)) (.int .i64 (aPos x)) (.int .i64 (aMost x)) (.int .i64 (aSum x)) vh (.int .i64 (aR x).1) (.int .i64 (aR x).2.1) vc vs vl) g n (l ++ [x]) := by
  rw [← sets11]
  show bookGrow lo (setsAt w2 g (l.length * 11) (aCells x vh vc vs vl)) g n (l ++ [x])
  obtain ⟨⟨xs, p, q, hr, rfl⟩, hroom⟩ := h
  rw [List.length_map] at hn ⊢
  have hroom2 := hroom.keep (hb.block g hg)
  have hk := mul_step (k := 11) hn
  have hr2 := hroom2.sub (o' := xs.length * 11) (n' := 11) (by omega) (by omega)
  have hT := setsAt_turned (aCells x vh vc vs vl) w2 g (xs.length * 11) (Turned.refl g (g + 1) w2) (Nat.le_refl _) (by omega)
  have hsz := hT.size
  have hb2 := hb.size
  have he : Edit g (0 + xs.length * AcctR.k) AcctR.k w.heap.size w.heap.size w (setsAt w2 g (xs.length * 11) (aCells x vh vc vs vl)) := by
    rw [AcctR_k, Nat.zero_add]
    exact ((Edit.refl g (xs.length * 11) 11 w.heap.size w.heap.size w).below hb (Nat.le_refl _) hg).sets _ _ _ (Nat.le_refl _) (Nat.le_refl _)
  have ha : atL (setsAt w2 g (xs.length * 11) (aCells x vh vc vs vl)) g (0 + xs.length * AcctR.k) (aCells x vh vc vs vl) := by
    rw [AcctR_k, Nat.zero_add]
    exact setsAt_at _ _ _ _ hr2
  have hf : freeL w g (0 + xs.length * AcctR.k) AcctR.k := by
    rw [AcctR_k, Nat.zero_add]
    exact (hroom.sub (o' := xs.length * 11) (n' := 11) (by omega) (by omega)).free
  refine ⟨⟨xs ++ [(aCells x vh vc vs vl, x)], _, _, hr.push he rfl ha hf (hI := ⟨vh, vc, vs, vl, rfl, hI.turned hT (.inr (by omega)) (Nat.le_refl _)⟩) (fun i hi => .inl (hr.in_ i hi).2.1) ⟨Nat.le_trans hr.blk.1 (by omega), hsz, .inl hg⟩ (by omega) (Nat.le_refl _), by simp⟩, setsAt_room _ _ _ _ _ _ hroom2⟩
set_option maxRecDepth 100000 in
theorem bookGrow.done {w : World} {lo g n : Nat} {l : BookD} (h : bookGrow lo w g n l) (hn : n = l.length) : AcctsIv.I lo w.heap.size w [.slice (some ⟨g, 0, none⟩) n n] l := by
  obtain ⟨⟨xs, p, q, hr, rfl⟩, -⟩ := h
  rw [List.length_map] at hn
  subst hn
  exact ⟨_, _, by rw [List.length_map], by rw [List.length_map]; exact Nat.le_refl _, .inr ⟨g, 0, xs, p, q, rfl, rfl, hr⟩⟩
set_option maxRecDepth 100000 in
set_option maxHeartbeats 4000000 in
theorem toAccts_any (hi : Nat) (v : Value) (l : BookD) (w : World) (hs : bookSmall 1048576 l) (h : AcctsR.rd hi w [v] l) (hhi : hi ≤ w.heap.size) :
    Calls Tryz.prog 23 #[v] w fun e w' => ∃ u, e = .returned u ∧ AcctsIv.I w.heap.size w'.heap.size w' [u] l ∧ Below w.heap.size w w' := by
  obtain ⟨A, c, rfl, hc, h⟩ := accts_rd h
  have HR := Lib.hid h
  obtain ⟨hn, hs⟩ := hs
  have HS := Lib.hid hs
  clear h hs
  have hmk := make_run (P := Tryz.prog) 27 50 #[.string ⟨#[]⟩, .int .i64 0, .int .i64 0, .int .i64 0, .int .i64 0, .slice none 0 0, .int .i64 0, .int .i64 0, .slice none 0 0, .slice none 0 0, .slice none 0 0] 11 160 Tryz.underlying27 infoAcct l.length (by omega) (by omega)
  go_enter Tryz.func23, Tryz.ntmps23
  go_wp2
  go_loopw [4] (fun iv wr => ∃ (i : Nat), i ≤ l.length ∧ iv = .int .i64 i ∧ Hid (bookGrow w.heap.size wr w.heap.size l.length (l.take i)) ∧ w.heap.size < wr.heap.size ∧ Hid (Below w.heap.size w wr)) (fun iv _ => l.length - (intOf iv).toNat)
  case atStart => exact ⟨0, Nat.zero_le _, rfl, Lib.hid (bookGrow.start (room_made w _ _ _) (Nat.le_refl _) (by simp)), by simp, Lib.hid ((Below.refl _ _).alloc (Nat.le_refl _) _)⟩
  case round =>
    obtain ⟨i, hil, rfl, HF, hz, HB⟩ := hrel
    by_cases hin : i < l.length
    · obtain ⟨x, hx⟩ : ∃ x, l[i]? = some x := ⟨_, List.getElem?_eq_getElem hin⟩
      obtain ⟨b, off, AH, cH, AC, cC, AS, cS, AL, cL, rfl, hbl, hat, hrd⟩ := HR.out i x hx
      have hxs := HS.out x (List.mem_of_getElem? hx)
      have HTK : Hid (l.take (i + 1) = l.take i ++ [x]) := Lib.hid (by
        obtain ⟨h1, h2⟩ := List.getElem?_eq_some_iff.1 hx
        rw [List.take_succ_eq_append_getElem h1, h2])
      have HTL : Hid ((l.take i).length = i) := Lib.hid (by rw [List.length_take]; omega)
      clear hx
      have hat := hat.below HB.out (show b < w.heap.size by omega)
      obtain ⟨d0, d1, d2, d3, d4, d5, d6, d7, d8, d9, d10⟩ := hat.eleven
      have HT := Lib.hid (toAcctI_any hi _ _ _ _ x wr hxs (Rep.below (R := AcctR) hrd HB.out hhi) (by omega))
      clear hrd hat
      have g1 : (i : Int) < (l.length : Int) := by omega
      have g2 : 0 ≤ (i : Int) := by omega
      go_wp2_with fail
      refine HT.out.mono ?_
      rintro e w2 ⟨vh, vc, vs, vl, rfl, hI, hb2⟩
      obtain ⟨AH', cH', AC', cC', AS', cS', AL', cL', he⟩ := acct_forms hI.mine.rd
      simp only [aCells, List.cons.injEq, and_true, true_and] at he
      obtain ⟨rfl, rfl, rfl, rfl⟩ := he
      have HN0 := HF.out.next hb2 (by rw [HTL.out]; exact hin) hz hI
      rw [HTL.out, ← HTK.out] at HN0
      have HN := Lib.hid HN0
      have HR2 := Lib.hid (HF.out.room.keep (hb2.block _ hz))
      have hz2 := hb2.size
      have HB2 : Hid (Below w.heap.size w w2) := Lib.hid (HB.out.trans (hb2.mono (by omega)))
      clear hb2 hI HN0
      have hk := mul_step (k := 11) hin
      obtain ⟨⟨u0, e0⟩, f0⟩ := HR2.out (i * 11 + 0) (by omega)
      obtain ⟨⟨u1, e1⟩, f1⟩ := HR2.out (i * 11 + 1) (by omega)
      obtain ⟨⟨u2, e2⟩, f2⟩ := HR2.out (i * 11 + 2) (by omega)
      obtain ⟨⟨u3, e3⟩, f3⟩ := HR2.out (i * 11 + 3) (by omega)
      obtain ⟨⟨u4, e4⟩, f4⟩ := HR2.out (i * 11 + 4) (by omega)
      obtain ⟨⟨u5, e5⟩, f5⟩ := HR2.out (i * 11 + 5) (by omega)
      obtain ⟨⟨u6, e6⟩, f6⟩ := HR2.out (i * 11 + 6) (by omega)
      obtain ⟨⟨u7, e7⟩, f7⟩ := HR2.out (i * 11 + 7) (by omega)
      obtain ⟨⟨u8, e8⟩, f8⟩ := HR2.out (i * 11 + 8) (by omega)
      obtain ⟨⟨u9, e9⟩, f9⟩ := HR2.out (i * 11 + 9) (by omega)
      obtain ⟨⟨u10, e10⟩, f10⟩ := HR2.out (i * 11 + 10) (by omega)
      simp only [Nat.zero_add, Nat.add_zero] at e0 f0 e1 f1 e2 f2 e3 f3 e4 f4 e5 f5 e6 f6 e7 f7 e8 f8 e9 f9 e10 f10
      clear hk d0 d1 d2 d3 d4 d5 d6 d7 d8 d9 d10
      go_wp2
      go_roundw
      case rel => exact ⟨i + 1, by omega, by go_num, HN, by simp; omega, Lib.hid (put11_below HB2.out (Nat.le_refl _))⟩
      case measure => simp [intOf] <;> omega
    · obtain rfl : i = l.length := by omega
      have HF' := HF.out
      rw [List.take_length] at HF'
      have HF := Lib.hid HF'
      clear HF'
      go_wp2
      go_ret
      exact ⟨_, rfl, HF.out.done rfl, HB.out⟩
set_option maxRecDepth 100000 in
set_option maxHeartbeats 1600000 in
theorem toBook_any (hi : Nat) (v : Value) (l : BookD) (w : World) (hs : bookSmall 1048576 l) (h : AcctsR.rd hi w [v] l) (hhi : hi ≤ w.heap.size) :
    Calls Tryz.prog 8 #[.agg #[v]] w (bookOneI l w) := by
  obtain ⟨A, c, rfl, hc⟩ := Rep.slice_form h
  have HQ := Lib.hid (fun W (hW : Below w.heap.size w W) => toAccts_any hi _ l W hs (Rep.below (R := AcctsR) h hW hhi) (Nat.le_trans hhi hW.size))
  clear h hs
  go_enter Tryz.func8, Tryz.ntmps8
  go_wp2_with fail
  obtain ⟨W, hW⟩ : ∃ W, W = ((w.alloc (.cells #[.slice A l.length c] 24)).alloc (.cells #[.slice none 0 0] 29)).alloc (.cells #[.slice none 0 0] 29) := ⟨_, rfl⟩
  have b1 : bk W (w.heap.size + 1) 29 [.slice none 0 0] := by rw [hW]; exact (by simpa using bk.new (w.alloc _) _ _ : bk _ (w.heap.size + 1) _ _).alloc _
  have b2 : bk W (w.heap.size + 1 + 1) 29 [.slice none 0 0] := by rw [hW]; simpa using bk.new ((w.alloc _).alloc _) _ _
  have HB0 : Hid (Below w.heap.size w W) := Lib.hid (by rw [hW]; exact (((Below.refl _ _).alloc (Nat.le_refl _) _).alloc (by simp) _).alloc (by simp; omega) _)
  have hz0 : W.heap.size = w.heap.size + 3 := by rw [hW]; simp
  rw [← hW]
  clear hW
  refine (HQ.out W HB0.out).mono ?_
  rintro e w1 ⟨u, rfl, hu, hb1⟩
  obtain ⟨AU, cU, rfl, -⟩ := Rep.slice_form (AcctsIv.rd hu)
  have z1 := hb1.size
  have HU := Lib.hid hu
  have HB1 : Hid (Below w.heap.size w w1) := Lib.hid (HB0.out.trans (hb1.mono (by omega)))
  replace b1 := b1.below hb1 (by omega)
  replace b2 := b2.below hb1 (by omega)
  clear hb1 HB0 hu
  have q0 := b2.cell 0
  have f2 := b2.frozen 0
  have r0 := b1.cell 0
  have g0 := b1.frozen 0
  simp only [List.getElem?_cons_zero] at q0 r0
  clear b1 b2
  go_wp2
  refine bodyPost_ret (v := .agg #[.slice AU l.length cU]) (by simp [results, Tryz.results8, go_sem, r0]) rfl ?_
  have ht := ((Turned.refl (w.heap.size + 1) (w.heap.size + 3) w1).set (b := w.heap.size + 1 + 1) 0 (.slice AU l.length cU) (by omega) (by omega)).set (b := w.heap.size + 1) 0 (.slice AU l.length cU) (by omega) (by omega)
  have hsz := ht.size
  exact ⟨_, rfl, AcctsIv.mono (AcctsIv.turned HU.out ht (.inr (by omega)) (Nat.le_refl _)) (by omega) hsz, HB1.out.trans (ht.below (by omega) (by omega))⟩
end Go.Proofs.YthnimmagaocipaaGreatDoor
