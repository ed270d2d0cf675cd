/- Live, LiveOnes, HoldDrop of the reference; no conditions. -/
import Derived.Test.YtnmijppppcgobaaGreatDoorMrg2
import Derived.WalkLawsBesides
import Derived.Deep.DeepCutAuto
import Derived.Test.YtnmijppppcgobaaGreatDoorMrg1
import Derived.LaidEql
import Derived.Stop.Asserts
import Derived.RowKitTokens
import Derived.Lib.ReflectliteSlice
import Derived.OneCell
import Derived.Laws.AppendOwn
import Derived.Laws.AppendOwnNone
import Derived.OwnWalk
import Derived.RegionTactic
import Derived.Deep.Cut
import Derived.Laws.CopyRow
set_option linter.unusedVariables false
namespace Go.Proofs.YtnmijppppcgobaaGreatDoor
open Go.ChangeShapes Go.WideShapes Go.ChangeAt Go.RowKit

set_option maxRecDepth 100000 in
theorem specLive_any (x : HoldD) (now : Int) (w : World) :
    Calls Tryz.prog 166 #[.agg #[.string x.1, .int .i64 x.2.1, .int .i64 x.2.2], .int .i64 now] w fun e w' => e = .returned (.bool (live now x)) ∧ Below w.heap.size w w' := by
  have HB0 : Hid (Below w.heap.size w (w.alloc (.cells #[.string x.1, .int .i64 x.2.1, .int .i64 x.2.2] 33))) := Lib.hid ((Below.refl _ _).alloc (Nat.le_refl _) _)
  go_enter Tryz.func166, Tryz.ntmps166
  go_wp2
  go_ret
  exact ⟨rfl, HB0.out⟩

set_option maxRecDepth 100000 in
set_option maxHeartbeats 1600000 in
theorem specLiveOnes_any (hi : Nat) (v : Value) (l : List HoldD) (now : Int) (w : World) (hn : l.length ≤ 1048576) (h : HoldsR.rd hi w [v] l) (hh : hi ≤ w.heap.size) :
    Calls Tryz.prog 83 #[v, .int .i64 now] w (holdsOne (liveL l now) w) := by
  obtain ⟨A, c, rfl, hc, h⟩ := holds_rd h
  have HR := Lib.hid h
  clear h
  go_enter Tryz.func83, Tryz.ntmps83
  go_upto_region 2 with fail
  obtain ⟨W2, hW2⟩ : ∃ W2, W2 = w.alloc (.cells #[] 33) := ⟨_, rfl⟩
  have HO2 : Hid (owE 33 3 hCells w.heap.size W2 (.slice (some ⟨w.heap.size, 0, none⟩) 0 0) []) := Lib.hid (by rw [hW2]; exact owE_empty _ _ _ _ _ (Nat.le_refl _))
  have HB2 : Hid (Below w.heap.size w W2) := Lib.hid (by rw [hW2]; exact (Below.refl _ _).alloc (Nat.le_refl _) _)
  have z2 : w.heap.size < W2.heap.size := by rw [hW2]; simp
  rw [← hW2]
  clear hW2
  go_wp2
  go_loopw [5, 11] (fun ov iv wr => ∃ (i : Nat) (A' : Option Addr) (c' : Nat) (s : List HoldD), i ≤ l.length ∧ iv = .int .i64 i ∧ ov = .slice A' s.length c' ∧ s.length ≤ i ∧ Hid (s = (l.take i).filter (live now)) ∧ Hid (owE 33 3 hCells w.heap.size wr (.slice A' s.length c') s) ∧ Hid (Below w.heap.size w wr) ∧ w.heap.size < wr.heap.size) (fun _ iv _ => l.length - (intOf iv).toNat)
  case atStart => exact ⟨0, _, _, [], Nat.zero_le _, rfl, rfl, Nat.zero_le _, Lib.hid rfl, HO2, HB2, z2⟩
  case round =>
    obtain ⟨i, A', c', s, hi', rfl, rfl, hsl, HI, HO, HB, hz⟩ := hrel
    by_cases hin : i < l.length
    · obtain ⟨x, hx⟩ : ∃ x, l[i]? = some x := ⟨_, List.getElem?_eq_getElem hin⟩
      obtain ⟨b, off, rfl, hbl, c0, c1, c2⟩ := HR.out i x hx
      have c0 := (HB.out.cell (p := ⟨b, off + i * 3, none⟩) (show b < w.heap.size by omega)).trans c0
      have c1 := (HB.out.cell (p := ⟨b, off + i * 3 + 1, none⟩) (show b < w.heap.size by omega)).trans c1
      have c2 := (HB.out.cell (p := ⟨b, off + i * 3 + 2, none⟩) (show b < w.heap.size by omega)).trans c2
      have g1 : (i : Int) < (l.length : Int) := by omega
      have g2 : 0 ≤ (i : Int) := by omega
      have HIN : Hid ((l.take (i + 1)).filter (live now) = s ++ (if (live now) x = true then [x] else [])) := Lib.hid (by
        obtain ⟨h1, h2⟩ := List.getElem?_eq_some_iff.1 hx
        rw [List.take_succ_eq_append_getElem h1, h2, List.filter_append, ← HI.out, List.filter_cons, List.filter_nil])
      clear hx
      go_upto_region 5 with fail
      obtain ⟨W3, hW3⟩ : ∃ W3, W3 = wr.alloc (.cells #[.string x.1, .int .i64 x.2.1, .int .i64 x.2.2] 33) := ⟨_, rfl⟩
      have HO3 : Hid (owE 33 3 hCells w.heap.size W3 (.slice A' s.length c') s) := Lib.hid (by rw [hW3]; exact HO.out.alloc _)
      have HX3 : Hid (bk W3 wr.heap.size 33 [.string x.1, .int .i64 x.2.1, .int .i64 x.2.2]) := Lib.hid (by rw [hW3]; exact bk.new wr _ _)
      have HB3 : Hid (Below w.heap.size w W3) := Lib.hid (by rw [hW3]; exact HB.out.alloc (by omega) _)
      have z3 : wr.heap.size < W3.heap.size := by rw [hW3]; simp
      rw [← hW3]
      clear hW3 HO HB c0 c1 c2
      obtain ⟨q0, q1, q2⟩ := HX3.out.cells3
      rcases (Bool.eq_false_or_eq_true (live now x)) with HLX | HLX
      · have HNX : Hid ((l.take (i + 1)).filter (live now) = s ++ [x]) := Lib.hid (by rw [HIN.out, if_pos HLX])
        have HLV := Lib.hid (fun W => specLive_any x now W)
        rw [HLX] at HLV
        go_wp2_with fail
        refine (HLV.out W3).mono ?_
        rintro e w4 ⟨rfl, hb4⟩
        have HO3 := Lib.hid (HO3.out.below hb4 (Nat.le_refl _))
        have HB3 := Lib.hid (HB3.out.trans (hb4.mono (by omega)))
        have z4 := hb4.size
        have hk4 := HX3.out.below hb4 z3
        clear hb4 q0 q1 q2
        obtain ⟨q0, q1, q2⟩ := hk4.cells3
        go_wp2_with (at_builtin; refine app_elem hCells 3 (fun _ => rfl) (by decide) hCells_one 23 33 #[.string ⟨#[]⟩, .int .i64 0, .int .i64 0] 32 Tryz.underlying23 infoHold rfl _ _ rfl (by rfl) w.heap.size _ _ s x _ _ (by rfl) (by rfl) (by rfl) (by simp) HO3.out (by unfold maxLen; omega) (by omega) (by first | omega | (simp; omega)) ?_)
        intro A9 c9 w9 hown9 hc9 hg9 hlies9
        have z9 : w.heap.size < w9.heap.size := by have := hg9.size; simp at this; omega
        have HB9 : Hid (Below w.heap.size w w9) := Lib.hid ((HB3.out.alloc (by omega) _).grown hg9 (by simp; omega) (fun g hg' => by have := HO3.out.lt g hg'; omega))
        have HO9 := Lib.hid hown9
        clear hown9 hg9 hlies9
        go_wp2
        go_roundw
        case rel => exact ⟨i + 1, A9, c9, s ++ [x], by omega, by go_num, by simp, by simp; omega, Lib.hid HNX.out.symm, Lib.hid (by simpa using HO9.out), HB9, by omega⟩
        case measure => simp [intOf] <;> omega
      · have HNX : Hid ((l.take (i + 1)).filter (live now) = s) := Lib.hid (by rw [HIN.out, if_neg (by rw [HLX]; exact Bool.false_ne_true), List.append_nil])
        have HLV := Lib.hid (fun W => specLive_any x now W)
        rw [HLX] at HLV
        go_wp2_with fail
        refine (HLV.out W3).mono ?_
        rintro e w4 ⟨rfl, hb4⟩
        have HO3 := Lib.hid (HO3.out.below hb4 (Nat.le_refl _))
        have HB3 := Lib.hid (HB3.out.trans (hb4.mono (by omega)))
        have z4 := hb4.size
        have hk4 := HX3.out.below hb4 z3
        clear hb4 q0 q1 q2
        obtain ⟨q0, q1, q2⟩ := hk4.cells3
        go_wp2
        go_roundw
        case rel => exact ⟨i + 1, A', c', s, by omega, by go_num, rfl, by omega, Lib.hid HNX.out.symm, HO3, HB3, by omega⟩
        case measure => simp [intOf] <;> omega
    · obtain rfl : i = l.length := by omega
      have HM := Lib.hid (owE_holds HO.out)
      have HV : Hid (liveL l now = s) := Lib.hid (by have := HI.out; rw [List.take_length] at this; exact this.symm)
      go_wp2
      refine bodyPost_ret (v := .slice A' s.length c') (by simp [results, Tryz.results83, go_sem]) rfl ?_
      rw [HV.out]
      exact ⟨_, rfl, HM.out, HB.out⟩

set_option maxRecDepth 100000 in
set_option maxHeartbeats 1600000 in
theorem specHoldDrop_any (hi : Nat) (v : Value) (l : List HoldD) (id : ByteArray) (w : World) (hn : l.length ≤ 1048576) (h : HoldsR.rd hi w [v] l) (hh : hi ≤ w.heap.size) :
    Calls Tryz.prog 106 #[v, .string id] w (holdsOne (dropL l id) w) := by
  obtain ⟨A, c, rfl, hc, h⟩ := holds_rd h
  have HR := Lib.hid h
  clear h
  go_enter Tryz.func106, Tryz.ntmps106
  go_upto_region 2 with fail
  obtain ⟨W2, hW2⟩ : ∃ W2, W2 = w.alloc (.cells #[] 33) := ⟨_, rfl⟩
  have HO2 : Hid (owE 33 3 hCells w.heap.size W2 (.slice (some ⟨w.heap.size, 0, none⟩) 0 0) []) := Lib.hid (by rw [hW2]; exact owE_empty _ _ _ _ _ (Nat.le_refl _))
  have HB2 : Hid (Below w.heap.size w W2) := Lib.hid (by rw [hW2]; exact (Below.refl _ _).alloc (Nat.le_refl _) _)
  have z2 : w.heap.size < W2.heap.size := by rw [hW2]; simp
  rw [← hW2]
  clear hW2
  go_wp2
  go_loopw [5, 11] (fun ov iv wr => ∃ (i : Nat) (A' : Option Addr) (c' : Nat) (s : List HoldD), i ≤ l.length ∧ iv = .int .i64 i ∧ ov = .slice A' s.length c' ∧ s.length ≤ i ∧ Hid (s = (l.take i).filter (fun x => decide (x.1 ≠ id))) ∧ Hid (owE 33 3 hCells w.heap.size wr (.slice A' s.length c') s) ∧ Hid (Below w.heap.size w wr) ∧ w.heap.size < wr.heap.size) (fun _ iv _ => l.length - (intOf iv).toNat)
  case atStart => exact ⟨0, _, _, [], Nat.zero_le _, rfl, rfl, Nat.zero_le _, Lib.hid rfl, HO2, HB2, z2⟩
  case round =>
    obtain ⟨i, A', c', s, hi', rfl, rfl, hsl, HI, HO, HB, hz⟩ := hrel
    by_cases hin : i < l.length
    · obtain ⟨x, hx⟩ : ∃ x, l[i]? = some x := ⟨_, List.getElem?_eq_getElem hin⟩
      obtain ⟨b, off, rfl, hbl, c0, c1, c2⟩ := HR.out i x hx
      have c0 := (HB.out.cell (p := ⟨b, off + i * 3, none⟩) (show b < w.heap.size by omega)).trans c0
      have c1 := (HB.out.cell (p := ⟨b, off + i * 3 + 1, none⟩) (show b < w.heap.size by omega)).trans c1
      have c2 := (HB.out.cell (p := ⟨b, off + i * 3 + 2, none⟩) (show b < w.heap.size by omega)).trans c2
      have g1 : (i : Int) < (l.length : Int) := by omega
      have g2 : 0 ≤ (i : Int) := by omega
      have HIN : Hid ((l.take (i + 1)).filter (fun x => decide (x.1 ≠ id)) = s ++ (if (fun x => decide (x.1 ≠ id)) x = true then [x] else [])) := Lib.hid (by
        obtain ⟨h1, h2⟩ := List.getElem?_eq_some_iff.1 hx
        rw [List.take_succ_eq_append_getElem h1, h2, List.filter_append, ← HI.out, List.filter_cons, List.filter_nil])
      clear hx
      go_upto_region 5 with fail
      obtain ⟨W3, hW3⟩ : ∃ W3, W3 = wr.alloc (.cells #[.string x.1, .int .i64 x.2.1, .int .i64 x.2.2] 33) := ⟨_, rfl⟩
      have HO3 : Hid (owE 33 3 hCells w.heap.size W3 (.slice A' s.length c') s) := Lib.hid (by rw [hW3]; exact HO.out.alloc _)
      have HX3 : Hid (bk W3 wr.heap.size 33 [.string x.1, .int .i64 x.2.1, .int .i64 x.2.2]) := Lib.hid (by rw [hW3]; exact bk.new wr _ _)
      have HB3 : Hid (Below w.heap.size w W3) := Lib.hid (by rw [hW3]; exact HB.out.alloc (by omega) _)
      have z3 : wr.heap.size < W3.heap.size := by rw [hW3]; simp
      rw [← hW3]
      clear hW3 HO HB c0 c1 c2
      obtain ⟨q0, q1, q2⟩ := HX3.out.cells3
      by_cases he : x.1 ≠ id
      · have HNX : Hid ((l.take (i + 1)).filter (fun x => decide (x.1 ≠ id)) = s ++ [x]) := Lib.hid (by rw [HIN.out, if_pos (decide_eq_true he)])
        have hel : ¬ x.1.toList = id.toList := fun e => he (str_eq_list.1 e)
        have hel2 : (x.1.toList == id.toList) = false := by simpa using hel
        clear he
        go_wp2_with (at_builtin; refine app_elem hCells 3 (fun _ => rfl) (by decide) hCells_one 23 33 #[.string ⟨#[]⟩, .int .i64 0, .int .i64 0] 32 Tryz.underlying23 infoHold rfl _ _ rfl (by rfl) w.heap.size _ _ s x _ _ (by rfl) (by rfl) (by rfl) (by simp) HO3.out (by unfold maxLen; omega) (by omega) (by first | omega | (simp; omega)) ?_)
        intro A9 c9 w9 hown9 hc9 hg9 hlies9
        have z9 : w.heap.size < w9.heap.size := by have := hg9.size; simp at this; omega
        have HB9 : Hid (Below w.heap.size w w9) := Lib.hid ((HB3.out.alloc (by omega) _).grown hg9 (by simp; omega) (fun g hg' => by have := HO3.out.lt g hg'; omega))
        have HO9 := Lib.hid hown9
        clear hown9 hg9 hlies9
        go_wp2
        go_roundw
        case rel => exact ⟨i + 1, A9, c9, s ++ [x], by omega, by go_num, by simp, by simp; omega, Lib.hid HNX.out.symm, Lib.hid (by simpa using HO9.out), HB9, by omega⟩
        case measure => simp [intOf] <;> omega
      · have HNX : Hid ((l.take (i + 1)).filter (fun x => decide (x.1 ≠ id)) = s) := Lib.hid (by rw [HIN.out, if_neg (by simpa using he), List.append_nil])
        have hel : x.1.toList = id.toList := by rw [Decidable.not_not.1 he]
        clear he
        go_wp2
        go_roundw
        case rel => exact ⟨i + 1, A', c', s, by omega, by go_num, rfl, by omega, Lib.hid HNX.out.symm, HO3, HB3, by omega⟩
        case measure => simp [intOf] <;> omega
    · obtain rfl : i = l.length := by omega
      have HM := Lib.hid (owE_holds HO.out)
      have HV : Hid (dropL l id = s) := Lib.hid (by have := HI.out; rw [List.take_length] at this; exact this.symm)
      go_wp2
      refine bodyPost_ret (v := .slice A' s.length c') (by simp [results, Tryz.results106, go_sem]) rfl ?_
      rw [HV.out]
      exact ⟨_, rfl, HM.out, HB.out⟩
end Go.Proofs.YtnmijppppcgobaaGreatDoor
set_option linter.unusedVariables false
namespace Go.Proofs.YtnmijppppcgobaaGreatDoor
open Go.ChangeShapes Go.WideShapes Go.ChangeAt Go.RowKit Go.Extern.Stop Go.Stop Go.Extern

set_option maxRecDepth 100000 in
theorem as_nil (t : Value) (w : World) :
    Calls Tryz.prog 142 #[.nilIface, t] w fun e w' => e = .returned (.bool false) ∧ w = w' := by
  go_enter Tryz.func142, Tryz.ntmps142
  go_wp2
  go_ret
  exact ⟨rfl, rfl⟩

abbrev big : Value := .int .i64 4611686018427387904
abbrev OV : Nat := 153
abbrev OP : Nat := 155
abbrev ER : Nat := 149
abbrev RT : Nat := 230
set_option maxRecDepth 100000 in
theorem r_valueOfP (t : Addr) (w : World) : (ReflectliteValue.unpack (.iface OP (.pointer (some t)))).run Tryz.prog w
    = .ok (.agg #[.pointer (some ⟨6, OP, none⟩), .pointer (some ⟨w.heap.size, 0, none⟩), .int .u64 150]) (w.alloc (.cells #[.pointer (some t)] OP)) := by kernel_rfl
set_option maxRecDepth 100000 in
theorem r_typeP (a : Addr) (w : World) : (ReflectliteValue.methodAny (ReflectliteValue.valueError "reflectlite.Value.Type" 0) (fun t _ _ _ => ReflectliteType.toType t) #[.agg #[.pointer (some ⟨6, OP, none⟩), .pointer (some a), .int .u64 150]]).run Tryz.prog w
    = .ok (.iface RT (.agg #[.pointer (some ⟨6, OP, none⟩)])) w := by kernel_rfl
set_option maxRecDepth 100000 in
theorem r_kindP (w : World) : ((ReflectliteType.abiMethod fun t => (fun a : Nat => Value.int IntKind.u8 (a : Int)) <$> Rtype.kind t) #[.pointer (some ⟨6, OP, none⟩)]).run Tryz.prog w = .ok (.int .u8 22) w := by kernel_rfl
set_option maxRecDepth 100000 in
theorem r_kindV (w : World) : ((ReflectliteType.abiMethod fun t => (fun a : Nat => Value.int IntKind.u8 (a : Int)) <$> Rtype.kind t) #[.pointer (some ⟨6, OV, none⟩)]).run Tryz.prog w = .ok (.int .u8 25) w := by kernel_rfl
set_option maxRecDepth 100000 in
theorem r_elem (w : World) : (ReflectliteType.method ReflectliteType.elem #[.agg #[.pointer (some ⟨6, OP, none⟩)]]).run Tryz.prog w = .ok (.iface RT (.agg #[.pointer (some ⟨6, OV, none⟩)])) w := by kernel_rfl
set_option maxRecDepth 100000 in
theorem r_impl (w : World) : (ReflectliteType.relation "Implements" ReflectliteType.implements_ #[.agg #[.pointer (some ⟨6, OV, none⟩)], .iface RT (.agg #[.pointer (some ⟨6, ER, none⟩)])]).run Tryz.prog w = .ok (.bool true) w := by kernel_rfl
set_option maxRecDepth 100000 in
theorem r_typeOf (v : Value) (w : World) : (ReflectliteType.typeOf #[.iface OV v]).run Tryz.prog w = .ok (.iface RT (.agg #[.pointer (some ⟨6, OV, none⟩)])) w := by kernel_rfl
set_option maxRecDepth 100000 in
theorem r_assign (w : World) : (ReflectliteType.relation "AssignableTo" ReflectliteType.assignableTo #[.agg #[.pointer (some ⟨6, OV, none⟩)], .iface RT (.agg #[.pointer (some ⟨6, OV, none⟩)])]).run Tryz.prog w = .ok (.bool true) w := by kernel_rfl
set_option maxRecDepth 100000 in
theorem r_valueOfV (w : World) : (ReflectliteValue.unpack (.iface OV (.agg #[big]))).run Tryz.prog w
    = .ok (.agg #[.pointer (some ⟨6, OV, none⟩), .pointer (some ⟨w.heap.size, 0, none⟩), .int .u64 153]) (w.alloc (.cells #[big] OV)) := by kernel_rfl
set_option maxRecDepth 100000 in
theorem r_partsP (a : Addr) (w : World) : (ReflectliteValue.parts (.agg #[.pointer (some ⟨6, OP, none⟩), .pointer (some a), .int .u64 150])).run Tryz.prog w = .ok (some (OP, a, 150)) w := by kernel_rfl
set_option maxRecDepth 100000 in
theorem r_partsA (a : Addr) (w : World) : (ReflectliteValue.parts (.agg #[.pointer (some ⟨6, OV, none⟩), .pointer (some a), .int .u64 409])).run Tryz.prog w = .ok (some (OV, a, 409)) w := by kernel_rfl
set_option maxRecDepth 100000 in
theorem r_partsV (a : Addr) (w : World) : (ReflectliteValue.parts (.agg #[.pointer (some ⟨6, OV, none⟩), .pointer (some a), .int .u64 153])).run Tryz.prog w = .ok (some (OV, a, 153)) w := by kernel_rfl
set_option maxRecDepth 100000 in
theorem r_elemOf (w : World) : (Rtype.elem? OP).run Tryz.prog w = .ok (some OV) w := by kernel_rfl
set_option maxRecDepth 100000 in
theorem r_mk (p : Addr) (w : World) : (ReflectliteValue.mk OV p ReflectliteValue.flagAddr).run Tryz.prog w = .ok (.agg #[.pointer (some ⟨6, OV, none⟩), .pointer (some p), .int .u64 409]) w := by kernel_rfl
set_option maxRecDepth 100000 in
theorem r_direct (w : World) : (Rtype.directlyAssignable OV OV).run Tryz.prog w = .ok true w := by kernel_rfl
set_option maxRecDepth 100000 in
theorem r_size (w : World) : (sizeOf OV).run Tryz.prog w = .ok 1 w := by kernel_rfl
set_option maxRecDepth 100000 in
theorem r_method (z : Sem Value) (f : TypeId → Addr → Nat → Nat → Sem Value) (v : Value) :
    ReflectliteValue.method z f #[v] = (do match ← ReflectliteValue.parts v with | none => z | some (t, a, fl) => f t a fl (fl % 32)) := rfl
set_option maxRecDepth 100000 in
theorem r_isNil (a p : Addr) (W : World) (ha : W.cell? a = some (.pointer (some p))) :
    (ReflectliteValue.method (ReflectliteValue.valueError "reflectlite.Value.IsNil" 0) ReflectliteValue.isNil #[.agg #[.pointer (some ⟨6, OP, none⟩), .pointer (some a), .int .u64 150]]).run Tryz.prog W = .ok (.bool false) W := by
  rw [r_method]
  simp only [Sem.run_bind, r_partsP, Result.andThen]
  simp [ReflectliteValue.isNil, loadVar, isAgg, underlying, Tryz.underlying155, ha, Result.andThen]
set_option maxRecDepth 100000 in
theorem r_elemV (a p : Addr) (W : World) (ha : W.cell? a = some (.pointer (some p))) :
    (ReflectliteValue.method (ReflectliteValue.valueError "reflectlite.Value.Elem" 0) ReflectliteValue.elem #[.agg #[.pointer (some ⟨6, OP, none⟩), .pointer (some a), .int .u64 150]]).run Tryz.prog W
      = .ok (.agg #[.pointer (some ⟨6, OV, none⟩), .pointer (some p), .int .u64 409]) W := by
  rw [r_method]
  simp only [Sem.run_bind, r_partsP, Result.andThen]
  simp [ReflectliteValue.elem, loadVar, isAgg, underlying, Tryz.underlying155, ha, Result.andThen, r_elemOf, r_mk]
set_option maxRecDepth 100000 in
theorem r_setText (v x : Value) : ReflectliteValue.set #[v, x] = (do
    let (some (dst, a, fl), some (src, b, _)) := (← ReflectliteValue.parts v, ← ReflectliteValue.parts x)
      | unsupported (.noEntry "extern/(internal/reflectlite.Value).Set.zeroValue")
    if fl / ReflectliteValue.flagAddr % 2 == 0 then unsupported (.noEntry "extern/(internal/reflectlite.Value).Set.unaddressable")
    let val ← loadVar src b
    if ← Rtype.directlyAssignable dst src then storeVar dst a val
    else if ← Rtype.implements dst src then
      if (← Rtype.kind src) == 20 then
        match val with
        | .nilIface => unsupported (.noEntry "extern/reflectlite: a nil value of one interface type handed on as a value of another")
        | _ => storeVar dst a val
      else storeVar dst a (.iface src val)
    else panicString ("reflectlite.Set: value of type " ++ (← Rtype.spelt src) ++ " is not assignable to type " ++ (← Rtype.spelt dst))
    pure (.tuple #[])) := rfl
set_option maxRecDepth 100000 in
theorem r_info : (Tryz.prog.info? OV).map (·.size) = some 1 := by kernel_rfl
set_option maxRecDepth 100000 in
theorem r_load (b : Nat) (W : World) (hB : W.heap[b]? = some (.cells #[big] OV (0, 0))) : (loadVar OV ⟨b, 0, none⟩).run Tryz.prog W = .ok (.agg #[big]) W :=
  run_loadVar_row W b OV OV #[big] (0, 0) _ hB Tryz.underlying153 rfl r_info
set_option maxRecDepth 100000 in
theorem r_store (ta : Addr) (old : Value) (W : World) (ht : W.cell? ta = some old) (hf : W.frozen? ta = false) : (storeVar OV ta (.agg #[big])).run Tryz.prog W = .ok () (W.setCell ta big) := by
  unfold storeVar
  simp only [Sem.run_bind, r_size, Result.andThen]
  simp [Value.cells, storeCells, Addr.add]
  rw [run_store Tryz.prog W ta _ _ (by rfl)]
  simp [ht, hf]
set_option maxRecDepth 100000 in
theorem r_set (ta : Addr) (b : Nat) (old : Value) (W : World) (hB : W.heap[b]? = some (.cells #[big] OV (0, 0))) (ht : W.cell? ta = some old) (hf : W.frozen? ta = false) :
    (ReflectliteValue.set #[.agg #[.pointer (some ⟨6, OV, none⟩), .pointer (some ta), .int .u64 409], .agg #[.pointer (some ⟨6, OV, none⟩), .pointer (some ⟨b, 0, none⟩), .int .u64 153]]).run Tryz.prog W
      = .ok (.tuple #[]) (W.setCell ta big) := by
  have h1 := r_load b W hB
  have h2 := r_store ta old W ht hf
  rw [r_setText]
  simp only [Sem.run_bind, r_partsA, r_partsV, Result.andThen]
  simp [ReflectliteValue.flagAddr, h1, h2, Result.andThen, r_direct]
end Go.Proofs.YtnmijppppcgobaaGreatDoor
set_option linter.unusedVariables false
namespace Go.Proofs.YtnmijppppcgobaaGreatDoor
open Go.ChangeShapes Go.WideShapes Go.ChangeAt Go.RowKit Go.Extern.Stop Go.Stop Go.Extern

abbrev RV : Nat := 201
set_option maxRecDepth 100000 in
set_option maxHeartbeats 4000000 in
theorem as_hit (t : Nat) (old : Value) (w : World) (hg : w.cell? ⟨1, 0, none⟩ = some (.iface RT (.agg #[.pointer (some ⟨6, ER, none⟩)]))) (hT : w.heap[t]? = some (.cells #[old] OV (0, 0))) :
    Calls Tryz.prog 142 #[.iface OV (.agg #[big]), .iface OP (.pointer (some ⟨t, 0, none⟩))] w fun ev w' => ev = .returned (.bool true) ∧
      w' = ((((w.alloc (.cells #[.pointer (some ⟨t, 0, none⟩)] OP)).alloc (.cells #[.pointer (some ⟨6, OP, none⟩), .pointer (some ⟨w.heap.size, 0, none⟩), .int .u64 150] RV)).alloc (.cells #[.pointer (some ⟨6, OP, none⟩), .pointer (some ⟨w.heap.size, 0, none⟩), .int .u64 150] RV)).alloc (.cells #[big] OV)).setCell ⟨t, 0, none⟩ big := by
  have hVO := @run_callFunc_extern Tryz.prog 205 _ (fun args => ReflectliteValue.unpack (args.getD 0 (.tuple #[]))) Tryz.func205 (by kernel_rfl) (by kernel_rfl) (by kernel_rfl) (by kernel_rfl)
  have hTy := @run_callFunc_extern Tryz.prog 206 _ (ReflectliteValue.methodAny (ReflectliteValue.valueError "reflectlite.Value.Type" 0) (fun t _ _ _ => ReflectliteType.toType t)) Tryz.func206 (by kernel_rfl) (by kernel_rfl) (by kernel_rfl) (by kernel_rfl)
  have hIN := @run_callFunc_extern Tryz.prog 207 _ (ReflectliteValue.method (ReflectliteValue.valueError "reflectlite.Value.IsNil" 0) ReflectliteValue.isNil) Tryz.func207 (by kernel_rfl) (by kernel_rfl) (by kernel_rfl) (by kernel_rfl)
  have hKi := @run_callFunc_extern Tryz.prog 282 _ (ReflectliteType.abiMethod fun t => do pure (.int .u8 (← Rtype.kind t))) Tryz.func282 (by kernel_rfl) (by kernel_rfl) (by kernel_rfl) (by kernel_rfl)
  have hEl := @run_callFunc_extern Tryz.prog 293 _ (ReflectliteType.method ReflectliteType.elem) Tryz.func293 (by kernel_rfl) (by kernel_rfl) (by kernel_rfl) (by kernel_rfl)
  have hIm := @run_callFunc_extern Tryz.prog 294 _ (ReflectliteType.relation "Implements" ReflectliteType.implements_) Tryz.func294 (by kernel_rfl) (by kernel_rfl) (by kernel_rfl) (by kernel_rfl)
  have hTO := @run_callFunc_extern Tryz.prog 237 _ ReflectliteType.typeOf Tryz.func237 (by kernel_rfl) (by kernel_rfl) (by kernel_rfl) (by kernel_rfl)
  have hAT := @run_callFunc_extern Tryz.prog 291 _ (ReflectliteType.relation "AssignableTo" ReflectliteType.assignableTo) Tryz.func291 (by kernel_rfl) (by kernel_rfl) (by kernel_rfl) (by kernel_rfl)
  have hVE := @run_callFunc_extern Tryz.prog 238 _ (ReflectliteValue.method (ReflectliteValue.valueError "reflectlite.Value.Elem" 0) ReflectliteValue.elem) Tryz.func238 (by kernel_rfl) (by kernel_rfl) (by kernel_rfl) (by kernel_rfl)
  have hVS := @run_callFunc_extern Tryz.prog 239 _ ReflectliteValue.set Tryz.func239 (by kernel_rfl) (by kernel_rfl) (by kernel_rfl) (by kernel_rfl)
  have tO := r_typeOf
  have a25 := r_assign
  have v25 := r_valueOfV
  have f6 := r_valueOfP
  have f7 := r_typeP
  have k27 := r_kindP
  have k25 := r_kindV
  have e27 := r_elem
  have i25 := r_impl
  have n8 := r_isNil ⟨w.heap.size, 0, none⟩ ⟨t, 0, none⟩ ((w.alloc (.cells #[.pointer (some ⟨t, 0, none⟩)] OP)).alloc (.cells #[.pointer (some ⟨6, OP, none⟩), .pointer (some ⟨w.heap.size, 0, none⟩), .int .u64 150] RV)) (by simp)
  have hlt : 1 < w.heap.size := by
    rcases Nat.lt_or_ge 1 w.heap.size with h | h
    · exact h
    · simp [World.cell?, Array.getElem?_eq_none h] at hg
  have hg2 : ((w.alloc (.cells #[.pointer (some ⟨t, 0, none⟩)] OP)).alloc (.cells #[.pointer (some ⟨6, OP, none⟩), .pointer (some ⟨w.heap.size, 0, none⟩), .int .u64 150] RV)).cell? ⟨1, 0, none⟩ = some (.iface RT (.agg #[.pointer (some ⟨6, ER, none⟩)])) := by
    rw [World.cell?_alloc_lt _ _ ⟨1, 0, none⟩ (by simp; omega), World.cell?_alloc_lt _ _ ⟨1, 0, none⟩ hlt]; exact hg
  have ht0 : w.cell? ⟨t, 0, none⟩ = some old := cell_of_one hT
  have hf0 : w.frozen? ⟨t, 0, none⟩ = false := free_of_one hT
  have htl : t < w.heap.size := lt_of_block hT
  have el := r_elemV ⟨w.heap.size, 0, none⟩ ⟨t, 0, none⟩ (((w.alloc (.cells #[.pointer (some ⟨t, 0, none⟩)] OP)).alloc (.cells #[.pointer (some ⟨6, OP, none⟩), .pointer (some ⟨w.heap.size, 0, none⟩), .int .u64 150] RV)).alloc (.cells #[.pointer (some ⟨6, OP, none⟩), .pointer (some ⟨w.heap.size, 0, none⟩), .int .u64 150] RV)) (by rw [World.cell?_alloc_lt _ _ ⟨w.heap.size, 0, none⟩ (by simp; omega)]; simp)
  have st := r_set ⟨t, 0, none⟩ (w.heap.size + 1 + 1 + 1) old ((((w.alloc (.cells #[.pointer (some ⟨t, 0, none⟩)] OP)).alloc (.cells #[.pointer (some ⟨6, OP, none⟩), .pointer (some ⟨w.heap.size, 0, none⟩), .int .u64 150] RV)).alloc (.cells #[.pointer (some ⟨6, OP, none⟩), .pointer (some ⟨w.heap.size, 0, none⟩), .int .u64 150] RV)).alloc (.cells #[big] OV))
    (by
      have hs : (((w.alloc (.cells #[.pointer (some ⟨t, 0, none⟩)] OP)).alloc (.cells #[.pointer (some ⟨6, OP, none⟩), .pointer (some ⟨w.heap.size, 0, none⟩), .int .u64 150] RV)).alloc (.cells #[.pointer (some ⟨6, OP, none⟩), .pointer (some ⟨w.heap.size, 0, none⟩), .int .u64 150] RV)).heap.size = w.heap.size + 1 + 1 + 1 := by simp
      generalize (((w.alloc (.cells #[.pointer (some ⟨t, 0, none⟩)] OP)).alloc (.cells #[.pointer (some ⟨6, OP, none⟩), .pointer (some ⟨w.heap.size, 0, none⟩), .int .u64 150] RV)).alloc (.cells #[.pointer (some ⟨6, OP, none⟩), .pointer (some ⟨w.heap.size, 0, none⟩), .int .u64 150] RV)) = V at hs ⊢
      rw [← hs]
      show (V.heap.push _)[V.heap.size]? = _
      simp)
    (by rw [World.cell?_alloc_lt _ _ ⟨t, 0, none⟩ (by simp; omega), World.cell?_alloc_lt _ _ ⟨t, 0, none⟩ (by simp; omega), World.cell?_alloc_lt _ _ ⟨t, 0, none⟩ (by simp; omega), World.cell?_alloc_lt _ _ ⟨t, 0, none⟩ htl]; exact ht0)
    (by rw [World.frozen?_alloc_old _ _ ⟨t, 0, none⟩ (by simp; omega), World.frozen?_alloc_old _ _ ⟨t, 0, none⟩ (by simp; omega), World.frozen?_alloc_old _ _ ⟨t, 0, none⟩ (by simp; omega), World.frozen?_alloc_old _ _ ⟨t, 0, none⟩ (Nat.ne_of_lt htl)]; exact hf0)
  clear hT
  go_enter Tryz.func142, Tryz.ntmps142
  go_wp2
  go_outline
  go_ways
  refine wp_loop_rounds 1 ?_
  rw [rounds_succ]
  go_wp2
  go_ret
  exact ⟨rfl, rfl⟩
end Go.Proofs.YtnmijppppcgobaaGreatDoor
set_option linter.unusedVariables false
namespace Go.Proofs.YtnmijppppcgobaaGreatDoor
open Go.ChangeShapes Go.WideShapes Go.ChangeAt Go.RowKit

set_option maxRecDepth 100000 in
theorem specClamp_any (n : Int) (w : World) : Calls Tryz.prog 193 #[.int .i64 n, .int .i64 0, .int .i64 4611686018427387904] w fun e w' => e = .returned (.int .i64 (clampM n)) ∧ w = w' := by
  by_cases h0 : n < 0
  · have hv : clampM n = 0 := by unfold clampM; rw [if_pos h0]
    rw [hv]; clear hv
    go_enter Tryz.func193, Tryz.ntmps193
    go_wp2
    go_ret
    exact ⟨rfl, rfl⟩
  · by_cases h1 : 4611686018427387904 < n
    · have hv : clampM n = 4611686018427387904 := by unfold clampM; rw [if_neg h0, if_pos h1]
      rw [hv]; clear hv
      go_enter Tryz.func193, Tryz.ntmps193
      go_wp2
      go_ret
      exact ⟨rfl, rfl⟩
    · have hv : clampM n = n := by unfold clampM; rw [if_neg h0, if_neg h1]
      rw [hv]; clear hv
      go_enter Tryz.func193, Tryz.ntmps193
      go_wp2
      go_ret
      exact ⟨rfl, rfl⟩

set_option maxRecDepth 100000 in
theorem implClamp_any (n : Int) (w : World) : Calls Tryz.prog 141 #[.int .i64 n] w fun e w' => e = .returned (.int .i64 (clampM n)) ∧ w = w' := by
  by_cases h0 : n < 0
  · have hv : clampM n = 0 := by unfold clampM; rw [if_pos h0]
    rw [hv]; clear hv
    go_enter Tryz.func141, Tryz.ntmps141
    go_wp2
    go_ret
    exact ⟨ret_int (by omega), rfl⟩
  · by_cases h1 : 4611686018427387904 < n
    · have hv : clampM n = 4611686018427387904 := by unfold clampM; rw [if_neg h0, if_pos h1]
      rw [hv]; clear hv
      go_enter Tryz.func141, Tryz.ntmps141
      go_wp2
      go_ret
      exact ⟨ret_int (by omega), rfl⟩
    · have hv : clampM n = n := by unfold clampM; rw [if_neg h0, if_neg h1]
      rw [hv]; clear hv
      go_enter Tryz.func141, Tryz.ntmps141
      go_wp2
      go_ret
      exact ⟨ret_int (by omega), rfl⟩

set_option maxRecDepth 100000 in
theorem specSat_any (a b : Int) (w : World) : Calls Tryz.prog 114 #[.int .i64 a, .int .i64 b] w fun e w' => e = .returned (.int .i64 (satVal a b)) ∧ w = w' := by
  cases hk : addOk (clampM a) (clampM b)
  · have hv : satVal a b = 4611686018427387904 := by simp [satVal, hk]
    rw [hv]; clear hv
    go_enter Tryz.func114, Tryz.ntmps114
    go_wp2_with (first | (go_at_call 193; refine (specClamp_any _ _).mono ?_; rintro e w' ⟨rfl, rfl⟩) | (go_at_call 192; refine (specAdd_any _ _ _).mono ?_; rintro e w' ⟨rfl, rfl⟩))
    go_ret
    exact ⟨rfl, rfl⟩
  · have hv : satVal a b = addVal (clampM a) (clampM b) := by simp [satVal, hk, addVal]
    rw [hv]; clear hv
    go_enter Tryz.func114, Tryz.ntmps114
    go_wp2_with (first | (go_at_call 193; refine (specClamp_any _ _).mono ?_; rintro e w' ⟨rfl, rfl⟩) | (go_at_call 192; refine (specAdd_any _ _ _).mono ?_; rintro e w' ⟨rfl, rfl⟩))
    go_ret
    exact ⟨rfl, rfl⟩

set_option maxRecDepth 100000 in
theorem implSat_any (a b : Int) (w : World) (hg : w.cell? ⟨1, 0, none⟩ = some (.iface RT (.agg #[.pointer (some ⟨6, ER, none⟩)]))) :
    Calls Tryz.prog 70 #[.int .i64 a, .int .i64 b] w fun e w' => e = .returned (.int .i64 (satVal a b)) ∧ Below w.heap.size w w' := by
  have ha := clampM_mon a
  have hb := clampM_mon b
  have hlt : 1 < w.heap.size := by
    rcases Nat.lt_or_ge 1 w.heap.size with h | h
    · exact h
    · simp [World.cell?, Array.getElem?_eq_none h] at hg
  by_cases hover : 4611686018427387904 - clampM b < clampM a
  · have hk : addOk (clampM a) (clampM b) = false := by unfold addOk; rw [decide_eq_false (by omega)]; simp
    have hv : satVal a b = 4611686018427387904 := by simp [satVal, hk]
    rw [hv]; clear hv hk
    go_enter Tryz.func70, Tryz.ntmps70
    go_wp2_with (first | (go_at_call 141; refine (implClamp_any _ _).mono ?_; rintro e w' ⟨rfl, rfl⟩) | (go_at_call 140; refine (sum_over _ _ _ ha hb hover).mono ?_; rintro e w' ⟨rfl, rfl⟩))
    go_wp2_with fail
    have hgA : (w.alloc (.cells #[.int .i64 0] OV)).cell? ⟨1, 0, none⟩ = some (.iface RT (.agg #[.pointer (some ⟨6, ER, none⟩)])) := cell?_alloc_old _ hg
    have hTA : (w.alloc (.cells #[.int .i64 0] OV)).heap[w.heap.size]? = some (.cells #[.int .i64 0] OV (0, 0)) := by
      show (w.heap.push _)[w.heap.size]? = _
      simp
    refine (as_hit w.heap.size (.int .i64 0) _ hgA hTA).mono ?_
    rintro e w1 ⟨rfl, rfl⟩
    go_wp2
    go_ret
    exact ⟨rfl, by go_grown⟩
  · have hk : addOk (clampM a) (clampM b) = true := by unfold addOk; rw [ha, hb, decide_eq_true (by omega)]; rfl
    have hv : satVal a b = clampM a + clampM b := by simp [satVal, hk]
    rw [hv]; clear hv hk
    go_enter Tryz.func70, Tryz.ntmps70
    go_wp2_with fail
    refine (implClamp_any _ _).mono ?_
    rintro e w' ⟨rfl, rfl⟩
    go_wp2_with fail
    refine (implClamp_any _ _).mono ?_
    rintro e w' ⟨rfl, rfl⟩
    go_wp2_with fail
    refine (sum_ok _ _ _ ha hb (by omega)).mono ?_
    rintro e w' ⟨rfl, rfl⟩
    go_wp2_with fail
    refine (as_nil _ _).mono ?_
    rintro e w' ⟨rfl, rfl⟩
    go_wp2
    go_ret
    exact ⟨rfl, (Below.refl _ _).alloc (Nat.le_refl _) _⟩
end Go.Proofs.YtnmijppppcgobaaGreatDoor
set_option linter.unusedVariables false
namespace Go.Proofs.YtnmijppppcgobaaGreatDoor
open Go.ChangeShapes Go.WideShapes Go.ChangeAt Go.RowKit

set_option maxRecDepth 100000 in
theorem storedL_next {l : List HoldD} {i : Nat} {x : HoldD} (h : l[i]? = some x) : storedL (l.take (i + 1)) = satVal (storedL (l.take i)) x.2.1 := by
  obtain ⟨hi, rfl⟩ := List.getElem?_eq_some_iff.1 h
  unfold storedL
  rw [List.take_succ_eq_append_getElem hi, List.foldl_append]
  rfl
set_option maxRecDepth 100000 in
set_option maxHeartbeats 1600000 in
theorem specStored_any (hi : Nat) (v : Value) (l : List HoldD) (w : World) (hn : l.length ≤ 1048576) (h : HoldsR.rd hi w [v] l) (hh : hi ≤ w.heap.size) :
    Calls Tryz.prog 115 #[v] w fun e w' => e = .returned (.int .i64 (storedL l)) ∧ Below w.heap.size w w' := by
  obtain ⟨A, c, rfl, hc, h⟩ := holds_rd h
  have HR := Lib.hid h
  clear h
  go_enter Tryz.func115, Tryz.ntmps115
  go_wp2
  go_loopw [3, 8] (fun nv iv wr => ∃ i : Nat, i ≤ l.length ∧ iv = .int .i64 i ∧ nv = .int .i64 (storedL (l.take i)) ∧ Hid (Below w.heap.size w wr) ∧ w.heap.size ≤ wr.heap.size) (fun _ iv _ => l.length - (intOf iv).toNat)
  case atStart => exact ⟨0, Nat.zero_le _, rfl, rfl, Lib.hid (Below.refl _ _), Nat.le_refl _⟩
  case round =>
    obtain ⟨i, hi', rfl, rfl, HB, hz⟩ := hrel
    by_cases hin : i < l.length
    · obtain ⟨x, hx⟩ : ∃ x, l[i]? = some x := ⟨_, List.getElem?_eq_getElem hin⟩
      obtain ⟨b, off, rfl, hbl, c0, c1, c2⟩ := HR.out i x hx
      have HNX := Lib.hid (storedL_next hx)
      clear hx
      have c0 := (HB.out.cell (p := ⟨b, off + i * 3, none⟩) (show b < w.heap.size by omega)).trans c0
      have c1 := (HB.out.cell (p := ⟨b, off + i * 3 + 1, none⟩) (show b < w.heap.size by omega)).trans c1
      have c2 := (HB.out.cell (p := ⟨b, off + i * 3 + 2, none⟩) (show b < w.heap.size by omega)).trans c2
      have g1 : (i : Int) < (l.length : Int) := by omega
      have g2 : 0 ≤ (i : Int) := by omega
      have HSA := Lib.hid (fun W => specSat_any (storedL (l.take i)) x.2.1 W)
      have HB2 : Hid (Below w.heap.size w (wr.alloc (.cells #[.string x.1, .int .i64 x.2.1, .int .i64 x.2.2] 33))) := Lib.hid (HB.out.alloc hz _)
      go_wp2_with fail
      refine (HSA.out _).mono ?_
      rintro e w5 ⟨rfl, rfl⟩
      go_wp2
      go_roundw
      case rel => exact ⟨i + 1, by omega, by go_num, by rw [HNX.out], HB2, by simp; omega⟩
      case measure => simp [intOf] <;> omega
    · obtain rfl : i = l.length := by omega
      rw [List.take_length]
      go_wp2
      go_ret
      exact ⟨rfl, HB.out⟩
set_option maxRecDepth 100000 in
theorem specLiveSum_any (hi : Nat) (v : Value) (l : List HoldD) (now : Int) (w : World) (hn : l.length ≤ 1048576) (h : HoldsR.rd hi w [v] l) (hh : hi ≤ w.heap.size) :
    Calls Tryz.prog 186 #[v, .int .i64 now] w fun e w' => e = .returned (.int .i64 (storedL (liveL l now))) ∧ Below w.heap.size w w' := by
  have HL := Lib.hid (specLiveOnes_any hi v l now w hn h hh)
  have hl : (liveL l now).length ≤ 1048576 := Nat.le_trans (List.length_filter_le _ _) hn
  clear h
  generalize liveL l now = m at HL hl ⊢
  go_enter Tryz.func186, Tryz.ntmps186
  go_wp2_with fail
  refine HL.out.mono ?_
  rintro e w1 ⟨u, rfl, hm, hb⟩
  have HS := Lib.hid (specStored_any w1.heap.size u m w1 hl hm.rd (Nat.le_refl _))
  have HB := Lib.hid hb
  have z := hb.size
  clear hm hb HL
  go_wp2_with fail
  refine HS.out.mono ?_
  rintro e w2 ⟨rfl, hb2⟩
  go_wp2
  go_ret
  exact ⟨rfl, HB.out.trans (hb2.mono z)⟩
end Go.Proofs.YtnmijppppcgobaaGreatDoor
set_option linter.unusedVariables false
namespace Go.Proofs.YtnmijppppcgobaaGreatDoor
open Go.ChangeShapes Go.WideShapes Go.ChangeAt Go.RowKit

end Go.Proofs.YtnmijppppcgobaaGreatDoor
set_option linter.unusedVariables false
namespace Go.Proofs.YtnmijppppcgobaaGreatDoor
open Go.ChangeShapes Go.WideShapes Go.ChangeAt Go.RowKit

section
variable {P : Program} (w : World)
set_option maxRecDepth 100000 in
theorem run_app_void (base : Nat) (t ty e : TypeId) (i : TypeInfo) (ht : P.underlying t = some (.slice e)) (hi : P.info? e = some i)
    (v : Value) (n : Nat) (xs : List Value) (size : Nat) (hown : w.ownsRow base e size v n xs) (c : Nat) : (Builtin.append_ #[t, t] ty #[v, .slice none 0 c]).run P w = .ok v w := by
  rcases hown.2 with ⟨rfl, rfl⟩ | ⟨g, cap, cur, rfl, _, _, hnc, _⟩
  · simp [Builtin.append_, run_underlying ht, sizeOf, typeInfo, hi, Builtin.lenOf, Builtin.firstCells]
  · simp [Builtin.append_, run_underlying ht, sizeOf, typeInfo, hi, Builtin.lenOf, Builtin.firstCells, hnc, storeCells]
set_option maxRecDepth 100000 in
theorem add_off (b off j : Nat) : (⟨b, off, none⟩ : Addr).add j = ⟨b, off + j, none⟩ := by
  unfold Addr.add
  split
  · subst j; rfl
  · rfl
set_option maxRecDepth 100000 in
theorem run_app_all (base : Nat) (t ty e : TypeId) (K : IntKind) (bytes : Nat) (ht : P.underlying t = some (.slice e)) (hinfo : (P.info? e).map (fun i => (i.zero, i.size, i.bytes)) = some (some (.int K 0), 1, bytes))
    (v : Value) (l : List Int) (hown : ow e K base w v l) (hi : Nat) (u : Value) (m : List Int) (hr : rd K hi w u m)
    (h63 : l.length + m.length ≤ maxLen) (hbytes : (l.length + m.length) * bytes ≤ 140737488355328) (hbase : base ≤ w.heap.size) :
    ∃ v' w', (Builtin.append_ #[t, t] ty #[v, u]).run P w = .ok v' w' ∧ ow e K base w' v' (l ++ m) ∧ w.grownBy w' v.ownBlock := by
  obtain ⟨i0, hi0, hz0, hz1, hz2⟩ := info_parts hinfo
  obtain ⟨A, c, rfl, hc, hj⟩ := hr
  have hne : ∀ (ad : Addr), A = some ad → ∀ j x, (m.map (Value.int K))[j]? = some x → w.cell? (ad.add j) = some x := by
    intro ad hA j x hx
    have hjm : j < m.length := by have := (List.getElem?_eq_some_iff.1 hx).1; simpa using this
    obtain ⟨b, off, e', _, hcell⟩ := hj j hjm
    rw [hA] at e'
    obtain rfl := Option.some.inj e'
    rw [add_off, hcell, ← hx, map_getD hjm]
  cases A with
  | none =>
    have hm : m = [] := by
      cases m with
      | nil => rfl
      | cons y m =>
        obtain ⟨b, off, e', _⟩ := hj 0 (by simp)
        cases e'
    subst hm
    refine ⟨v, w, run_app_void w base t ty e i0 ht hi0 v l.length _ 1 hown c, by simpa using hown, World.grownBy.refl w _⟩
  | some ad =>
    obtain ⟨v', w', h1, h2, h3, _⟩ := run_append_own (P := P) w base t ty e i0 (.int K 0) 1 bytes ht hi0 hz0 hz1 hz2 rfl (by decide) v l.length (l.map (Value.int K)) hown ad m.length c (m.map (Value.int K)) (by simp) (hne ad rfl) (fun u hu => by obtain ⟨x, _, rfl⟩ := List.mem_map.1 hu; rfl) h63 hbytes hbase
    refine ⟨v', w', h1, ?_, h3⟩
    unfold ow
    rw [List.length_append, List.map_append]
    exact h2
set_option maxRecDepth 100000 in
theorem wp_app_all {o : Oper} {a : Act} {Kn : Act → World → Prop} {Q : Exit → Act → World → Prop} (s x : Operand) (t : TypeId)
    (ho : o.op = .call { callee := .builtin .append, args := #[s, x], argTypes := #[t, t] })
    (base : Nat) (e : TypeId) (K : IntKind) (bytes : Nat) (ht : P.underlying t = some (.slice e)) (hinfo : (P.info? e).map (fun i => (i.zero, i.size, i.bytes)) = some (some (.int K 0), 1, bytes))
    (v : Value) (l : List Int) (hs : a.eval s = v) (hown : ow e K base w v l) (hi : Nat) (u : Value) (m : List Int) (hx : a.eval x = u) (hr : rd K hi w u m)
    (h63 : l.length + m.length ≤ maxLen) (hbytes : (l.length + m.length) * bytes ≤ 140737488355328) (hbase : base ≤ w.heap.size)
    (h : ∀ v' w', ow e K base w' v' (l ++ m) → w.grownBy w' v.ownBlock → Kn (a.put o.dst v') w') : o.wp P a w Kn Q := by
  obtain ⟨v', w', hrun, h2, h3⟩ := run_app_all (P := P) w base t o.type e K bytes ht hinfo v l hown hi u m hr h63 hbytes hbase
  unfold Oper.wp execOp
  simp only [ho, resolve, invoke, builtin, Sem.run_bind, Sem.run_pure, Result.andThen_ok, List.map_toArray, List.map_cons, List.map_nil, hs, hx, hrun]
  exact h v' w' h2 h3
set_option maxRecDepth 100000 in
/-- append(dst, src...), dst a row of the call's own from block base on -/
theorem app_all {ops : Array Oper} {rest : List Oper} {o : Oper} {a : Act} {Q : Exit → Act → World → Prop} (hgd : o.guard = none) (s x : Operand) (t : TypeId)
    (ho : o.op = .call { callee := .builtin .append, args := #[s, x], argTypes := #[t, t] })
    (base : Nat) (e : TypeId) (K : IntKind) (bytes : Nat) (ht : P.underlying t = some (.slice e)) (hinfo : (P.info? e).map (fun i => (i.zero, i.size, i.bytes)) = some (some (.int K 0), 1, bytes))
    (v : Value) (l : List Int) (hs : a.eval s = v) (hown : ow e K base w v l) (hi : Nat) (u : Value) (m : List Int) (hx : a.eval x = u) (hr : rd K hi w u m)
    (h63 : l.length + m.length ≤ maxLen) (hbytes : (l.length + m.length) * bytes ≤ 140737488355328) (hbase : base ≤ w.heap.size)
    (h : ∀ v' w', ow e K base w' v' (l ++ m) → w.grownBy w' v.ownBlock → Below base w w' → wpList P ops Q rest (a.put o.dst v') w') : wpList P ops Q (o :: rest) a w :=
  wpList_plain hgd fun _ hK => wp_app_all w s x t ho base e K bytes ht hinfo v l hs hown hi u m hx hr h63 hbytes hbase fun v' w' h2 h3 => hK _ _ (h v' w' h2 h3 ((Below.refl base w).grown h3 hbase fun k hk => (hown.lt k hk).1))
end
end Go.Proofs.YtnmijppppcgobaaGreatDoor
set_option linter.unusedVariables false
namespace Go.Proofs.YtnmijppppcgobaaGreatDoor
open Go.ChangeShapes Go.WideShapes Go.ChangeAt Go.RowKit

def slotOk (x : SlotD) : Bool := digs x.1 && (decide (x.1.size = 6) && (digs x.2.1 && (decide (x.2.1.size = 4) && inB (x.2.2.length : Int) 1 200)))
set_option maxRecDepth 100000 in
set_option maxHeartbeats 1600000 in
theorem specSlotOk_any (hi : Nat) (v : Value) (x : SlotD) (w : World) (hs1 : x.1.size ≤ maxLen) (hs2 : x.2.1.size ≤ maxLen) (h : rd .u8 hi w v x.2.2) :
    Calls Tryz.prog 224 #[.agg #[.string x.1, .string x.2.1, v]] w fun e w' => e = .returned (.bool (slotOk x)) ∧ Below w.heap.size w w' := by
  obtain ⟨A, c, rfl, -⟩ := h.form
  clear h
  have HD1 := Lib.hid (fun w => specDigits_any x.1 w hs1)
  have HD2 := Lib.hid (fun w => specDigits_any x.2.1 w hs2)
  have HI := Lib.hid (fun w => inB_any (x.2.2.length : Int) 1 200 w)
  have HV : Hid (slotOk x = (digs x.1 && (decide (x.1.size = 6) && (digs x.2.1 && (decide (x.2.1.size = 4) && inB (x.2.2.length : Int) 1 200))))) := Lib.hid rfl
  generalize digs x.1 = b1 at HD1 HV
  generalize digs x.2.1 = b2 at HD2 HV
  generalize inB (x.2.2.length : Int) 1 200 = b3 at HI HV
  have HB0 : Hid (Below w.heap.size w (w.alloc (.cells #[.string x.1, .string x.2.1, .slice A x.2.2.length c] 176))) := Lib.hid ((Below.refl _ _).alloc (Nat.le_refl _) _)
  rw [HV.out]
  cases b1
  · go_enter Tryz.func224, Tryz.ntmps224
    go_wp2_with fail
    refine (HD1.out _).mono ?_
    rintro e w1 ⟨rfl, rfl⟩
    go_wp2
    go_ret
    exact ⟨rfl, HB0.out⟩
  by_cases e6 : x.1.size = 6
  case neg =>
    rw [decide_eq_false e6]
    have e6' : ((x.1.size : Int) == 6) = false := by simp; omega
    clear e6
    go_enter Tryz.func224, Tryz.ntmps224
    go_wp2_with fail
    refine (HD1.out _).mono ?_
    rintro e w1 ⟨rfl, rfl⟩
    go_wp2
    go_ret
    exact ⟨rfl, HB0.out⟩
  rw [decide_eq_true e6]
  have e6' : ((x.1.size : Int) == 6) = true := by simp; omega
  have HE6 := Lib.hid e6
  clear e6
  cases b2
  · go_enter Tryz.func224, Tryz.ntmps224
    go_wp2_with fail
    refine (HD1.out _).mono ?_
    rintro e w1 ⟨rfl, rfl⟩
    go_wp2_with fail
    refine (HD2.out _).mono ?_
    rintro e w1 ⟨rfl, rfl⟩
    go_wp2
    go_ret
    exact ⟨rfl, HB0.out⟩
  by_cases e4 : x.2.1.size = 4
  case neg =>
    rw [decide_eq_false e4]
    have e4' : ((x.2.1.size : Int) == 4) = false := by simp; omega
    clear e4
    go_enter Tryz.func224, Tryz.ntmps224
    go_wp2_with fail
    refine (HD1.out _).mono ?_
    rintro e w1 ⟨rfl, rfl⟩
    go_wp2_with fail
    refine (HD2.out _).mono ?_
    rintro e w1 ⟨rfl, rfl⟩
    go_wp2
    go_ret
    exact ⟨rfl, HB0.out⟩
  rw [decide_eq_true e4]
  have e4' : ((x.2.1.size : Int) == 4) = true := by simp; omega
  clear e4
  go_enter Tryz.func224, Tryz.ntmps224
  go_wp2_with fail
  refine (HD1.out _).mono ?_
  rintro e w1 ⟨rfl, rfl⟩
  go_wp2_with fail
  refine (HD2.out _).mono ?_
  rintro e w1 ⟨rfl, rfl⟩
  go_wp2_with fail
  refine (HI.out _).mono ?_
  rintro e w1 ⟨rfl, rfl⟩
  go_wp2
  go_ret
  exact ⟨rfl, HB0.out⟩
end Go.Proofs.YtnmijppppcgobaaGreatDoor
set_option linter.unusedVariables false
namespace Go.Proofs.YtnmijppppcgobaaGreatDoor
open Go.ChangeShapes Go.WideShapes Go.ChangeAt Go.RowKit

set_option maxRecDepth 100000 in
theorem ow_made (T : TypeId) (K : IntKind) (w : World) : ow T K w.heap.size (w.alloc (.cells #[] T)) (.slice (some ⟨w.heap.size, 0, none⟩) 0 0) [] := by
  refine ⟨rfl, Or.inr ⟨w.heap.size, 0, #[], rfl, Nat.le_refl _, ?_, Nat.le_refl _, Nat.zero_le _, rfl, rfl⟩⟩
  show (w.heap.push _)[w.heap.size]? = _
  simp
/-- the first with this trace and this type: its reply -/
def isSlot (t m : ByteArray) (x : SlotD) : Bool := decide (x.1 = t) && decide (x.2.1 = m)
end Go.Proofs.YtnmijppppcgobaaGreatDoor
set_option linter.unusedVariables false
namespace Go.Proofs.YtnmijppppcgobaaGreatDoor
open Go.ChangeShapes Go.WideShapes Go.ChangeAt Go.RowKit

/-- element i is right, and none before it has its trace and type -/
def slotAtOk (l : List SlotD) (i : Nat) : Bool := match l[i]? with | some x => slotOk x && (l.take i).all fun y => !isSlot x.1 x.2.1 y | none => true
def slotsOk (l : List SlotD) : Bool := (List.range l.length).all (slotAtOk l) && decide (l.length ≤ 6)
set_option maxRecDepth 100000 in
theorem slots_ok_not {l : List SlotD} {i : Nat} (hi : i < l.length) (h : slotAtOk l i = false) : slotsOk l = false := by
  unfold slotsOk
  have : (List.range l.length).all (slotAtOk l) = false := by
    rw [List.all_eq_false]
    exact ⟨i, List.mem_range.2 hi, by rw [h]; exact Bool.false_ne_true⟩
  rw [this]; rfl
set_option maxRecDepth 100000 in
theorem slots_ok_end {l : List SlotD} (h : ∀ j, j < l.length → slotAtOk l j = true) : slotsOk l = decide (l.length ≤ 6) := by
  unfold slotsOk
  have : (List.range l.length).all (slotAtOk l) = true := List.all_eq_true.2 fun j hj => h j (List.mem_range.1 hj)
  rw [this]; rfl
set_option maxRecDepth 100000 in
theorem slot_at {l : List SlotD} {i : Nat} {x : SlotD} (hx : l[i]? = some x) : slotAtOk l i = (slotOk x && (l.take i).all fun y => !isSlot x.1 x.2.1 y) := by
  unfold slotAtOk; rw [hx]
set_option maxRecDepth 100000 in
set_option maxHeartbeats 3200000 in
theorem specSlotsOk_any (hi : Nat) (v : Value) (l : List SlotD) (w : World) (hn : l.length ≤ 2000000) (hs : ∀ x ∈ l, x.1.size ≤ maxLen ∧ x.2.1.size ≤ maxLen) (h : SlotsR.rd hi w [v] l) (hh : hi ≤ w.heap.size) :
    Calls Tryz.prog 165 #[v] w fun e w' => e = .returned (.bool (slotsOk l)) ∧ Below w.heap.size w w' := by
  obtain ⟨A, c, rfl, hc, h⟩ := slots_rd h
  have HR := Lib.hid h
  have HS := Lib.hid hs
  clear h hs
  go_enter Tryz.func165, Tryz.ntmps165
  go_wp2
  go_loopw [9] (fun iv wr => ∃ i : Nat, i ≤ l.length ∧ iv = .int .i64 i ∧ Hid (∀ j, j < i → slotAtOk l j = true) ∧ Hid (Below w.heap.size w wr) ∧ w.heap.size ≤ wr.heap.size) (fun iv _ => l.length - (intOf iv).toNat)
  case atStart => exact ⟨0, Nat.zero_le _, rfl, Lib.hid (fun j hj => absurd hj (by omega)), Lib.hid (Below.refl _ _), Nat.le_refl _⟩
  case round =>
    obtain ⟨i, hi', rfl, HN, HB, hz⟩ := hrel
    by_cases hin : i < l.length
    · obtain ⟨x, hx⟩ : ∃ x, l[i]? = some x := ⟨_, List.getElem?_eq_getElem hin⟩
      obtain ⟨b, off, A', c', rfl, hbl, d0, d1, d2, hrd⟩ := HR.out i x hx
      obtain ⟨hs1, hs2⟩ := HS.out x (List.mem_of_getElem? hx)
      have d0 := (HB.out.cell (p := ⟨b, off + i * 3, none⟩) (show b < w.heap.size by omega)).trans d0
      have d1 := (HB.out.cell (p := ⟨b, off + i * 3 + 1, none⟩) (show b < w.heap.size by omega)).trans d1
      have d2 := (HB.out.cell (p := ⟨b, off + i * 3 + 2, none⟩) (show b < w.heap.size by omega)).trans d2
      have HRD := Lib.hid hrd
      have HAT := Lib.hid (slot_at hx)
      have g1 : (i : Int) < (l.length : Int) := by omega
      have g2 : 0 ≤ (i : Int) := by omega
      have g3 : (i : Int) ≤ (c : Int) := by omega
      clear hx hrd
      go_upto_region 4 with fail
      obtain ⟨W3, hW3⟩ : ∃ W3, W3 = wr.alloc (.cells #[.string x.1, .string x.2.1, .slice A' x.2.2.length c'] 176) := ⟨_, rfl⟩
      have b3 : bk W3 wr.heap.size 176 [.string x.1, .string x.2.1, .slice A' x.2.2.length c'] := by rw [hW3]; exact bk.new wr _ _
      have hb3 : Below wr.heap.size wr W3 := by rw [hW3]; exact (Below.refl _ _).alloc (Nat.le_refl _) _
      rw [← hW3]
      clear hW3
      have z3 := b3.lt
      have HB3 : Hid (Below w.heap.size w W3) := Lib.hid (HB.out.trans (hb3.mono hz))
      have HOK := Lib.hid (specSlotOk_any hi _ x W3 hs1 hs2 (HRD.out.below HB3.out hh))
      have HX3 := Lib.hid b3
      obtain ⟨q0, q1, q2⟩ := b3.cells3
      clear b3 hb3 HB d0 d1 d2 HRD hs1 hs2
      generalize slotOk x = ok at HOK HAT
      go_wp2_with fail
      refine HOK.out.mono ?_
      rintro e w4 ⟨rfl, hb4⟩
      have z4 := hb4.size
      have HB4 : Hid (Below w.heap.size w w4) := Lib.hid (HB3.out.trans (hb4.mono (by omega)))
      have HX4 := Lib.hid (HX3.out.below hb4 z3)
      clear hb4 HX3 HB3 q0 q1 q2 HOK
      cases ok
      · have HV : Hid (slotsOk l = false) := Lib.hid (slots_ok_not hin (by rw [HAT.out]; rfl))
        go_wp2
        go_ret
        exact ⟨ret_bool HV.out.symm, HB4.out⟩
      generalize wr.heap.size = gx at *
      go_wp2
      go_loopw [21] (fun kv wr => ∃ k : Nat, k ≤ i ∧ kv = .int .i64 k ∧ Hid (∀ y ∈ l.take k, isSlot x.1 x.2.1 y = false) ∧ Hid (bk wr gx 176 [.string x.1, .string x.2.1, .slice A' x.2.2.length c']) ∧ Hid (Below w.heap.size w wr) ∧ gx < wr.heap.size) (fun kv _ => i - (intOf kv).toNat)
      case atStart => exact ⟨0, Nat.zero_le _, rfl, Lib.hid (by simp), HX4, HB4, by omega⟩
      case round =>
        obtain ⟨k, hk, rfl, HK, HXs, HBs, hzs⟩ := hrel
        by_cases hki : k < i
        · obtain ⟨y, hy⟩ : ∃ y, l[k]? = some y := ⟨_, List.getElem?_eq_getElem (by omega)⟩
          obtain ⟨b', off', A2, c2, e', -, d0, d1, d2, -⟩ := HR.out k y hy
          simp only [Option.some.injEq, Addr.mk.injEq, and_true] at e'
          obtain ⟨rfl, rfl⟩ := e'
          have d0 := (HBs.out.cell (p := ⟨b, off + k * 3, none⟩) (show b < w.heap.size by omega)).trans d0
          have d1 := (HBs.out.cell (p := ⟨b, off + k * 3 + 1, none⟩) (show b < w.heap.size by omega)).trans d1
          have d2 := (HBs.out.cell (p := ⟨b, off + k * 3 + 2, none⟩) (show b < w.heap.size by omega)).trans d2
          have k1 : (k : Int) < (i : Int) := by omega
          have k2 : 0 ≤ (k : Int) := by omega
          have HYI := Lib.hid hy
          clear hy
          go_upto_region 9 with fail
          obtain ⟨W5, hW5⟩ : ∃ W5, W5 = wr.alloc (.cells #[.string y.1, .string y.2.1, .slice A2 y.2.2.length c2] 176) := ⟨_, rfl⟩
          have b5 : bk W5 wr.heap.size 176 [.string y.1, .string y.2.1, .slice A2 y.2.2.length c2] := by rw [hW5]; exact bk.new wr _ _
          have hb5 : Below wr.heap.size wr W5 := by rw [hW5]; exact (Below.refl _ _).alloc (Nat.le_refl _) _
          rw [← hW5]
          clear hW5
          have HX5 := Lib.hid (HXs.out.below hb5 hzs)
          have HB5 : Hid (Below w.heap.size w W5) := Lib.hid (HBs.out.trans (hb5.mono HBs.out.size))
          have z5 := hb5.size
          obtain ⟨q0, q1, q2⟩ := HX5.out.cells3
          obtain ⟨r0, r1, r2⟩ := b5.cells3
          clear b5 hb5 d0 d1 d2 HXs HBs
          have HNY : isSlot x.1 x.2.1 y = false → Hid (∀ y ∈ l.take (k + 1), isSlot x.1 x.2.1 y = false) := fun hne => Lib.hid (by
            obtain ⟨h1, h2⟩ := List.getElem?_eq_some_iff.1 HYI.out
            rw [List.take_succ_eq_append_getElem h1, h2]
            intro z hz'
            rcases List.mem_append.1 hz' with hz' | hz'
            · exact HK.out z hz'
            · rw [List.mem_singleton.1 hz']; exact hne)
          by_cases e1 : y.1 = x.1
          · have hel1 : y.1.toList = x.1.toList := by rw [e1]
            by_cases e2 : y.2.1 = x.2.1
            · have hel2 : y.2.1.toList = x.2.1.toList := by rw [e2]
              have HV : Hid (slotsOk l = false) := Lib.hid (slots_ok_not hin (by
                rw [HAT.out, Bool.true_and, List.all_eq_false]
                refine ⟨y, ?_, ?_⟩
                · obtain ⟨h1, h2⟩ := List.getElem?_eq_some_iff.1 HYI.out
                  rw [List.mem_take_iff_getElem]; exact ⟨k, by omega, h2⟩
                · unfold isSlot; rw [decide_eq_true e1, decide_eq_true e2]; decide))
              clear e1 e2 HNY
              go_wp2
              go_ret
              exact ⟨ret_bool HV.out.symm, HB5.out⟩
            · have hel2 : ¬ y.2.1.toList = x.2.1.toList := fun e => e2 (str_eq_list.1 e)
              have hel3 : (y.2.1.toList == x.2.1.toList) = false := by simpa using hel2
              have HN2 := HNY (by unfold isSlot; rw [decide_eq_false e2, Bool.and_false])
              clear e1 e2 HNY
              go_wp2
              go_roundw
              case rel => exact ⟨k + 1, by omega, by go_num, HN2, HX5, HB5, by omega⟩
              case measure => simp [intOf] <;> omega
          · have hel1 : ¬ y.1.toList = x.1.toList := fun e => e1 (str_eq_list.1 e)
            have hel3 : (y.1.toList == x.1.toList) = false := by simpa using hel1
            have HN2 := HNY (by unfold isSlot; rw [decide_eq_false e1, Bool.false_and])
            clear e1 HNY
            go_wp2
            go_roundw
            case rel => exact ⟨k + 1, by omega, by go_num, HN2, HX5, HB5, by omega⟩
            case measure => simp [intOf] <;> omega
        · obtain rfl : k = i := by omega
          have HOKI : Hid (∀ j, j < k + 1 → slotAtOk l j = true) := Lib.hid (fun j hj => by
            by_cases e : j = k
            · subst e
              rw [HAT.out, Bool.true_and, List.all_eq_true]
              intro y hy
              rw [HK.out y hy]; rfl
            · exact HN.out j (by omega))
          go_wp2
          go_roundw
          case rel => exact ⟨k + 1, by omega, by go_num, HOKI, HBs, by omega⟩
          case measure => simp [intOf] <;> omega
    · obtain rfl : i = l.length := by omega
      have HV : Hid (slotsOk l = decide (l.length ≤ 6)) := Lib.hid (slots_ok_end HN.out)
      go_wp2
      go_ret
      exact ⟨ret_bool (by rw [HV.out]; simp; omega), HB.out⟩
end Go.Proofs.YtnmijppppcgobaaGreatDoor
set_option linter.unusedVariables false
namespace Go.Proofs.YtnmijppppcgobaaGreatDoor
open Go.ChangeShapes Go.WideShapes Go.ChangeAt Go.RowKit

def acctHead (a : AcctD) : Bool := acctIdB (aId a) && (inB (aLim a) 0 9007199254740992 && (inB (aMost a) 0 1000 && (inB (aSum a) 0 9007199254740992 && isMon (aPos a))))
def acctTail (a : AcctD) : Bool := holdsOk (aH a) && (ringOk (aR a) && (slotsOk (aS a) && decide (satVal (aPos a) (storedL (aH a)) ≤ aLim a)))
def acctOk (a : AcctD) : Bool := acctHead a && acctTail a
set_option maxRecDepth 100000 in
set_option maxHeartbeats 16000000 in
theorem specAcctOk_any (hi : Nat) (vh vc vs vl : Value) (a : AcctD) (w : World) (hz : acctSmall 1048576 a) (hbig : acctBig a) (h : AcctR.rd hi w (aCells a vh vc vs vl) a) (hh : hi ≤ w.heap.size) :
    Calls Tryz.prog 81 #[.agg #[.string (aId a), .int .i64 (aLim a), .int .i64 (aPos a), .int .i64 (aMost a), .int .i64 (aSum a), vh, .int .i64 (aR a).1, .int .i64 (aR a).2.1, vc, vs, vl]] w fun e w' => e = .returned (.bool (acctOk a)) ∧ Below w.heap.size w w' := by
  obtain ⟨vh0, vc0, vs0, vl0, hcs, r1, r2, r3, r4⟩ := acct_rd h
  simp only [aCells, List.cons.injEq, and_true, true_and] at hcs
  obtain ⟨rfl, rfl, rfl, rfl⟩ := hcs
  clear h
  obtain ⟨z1, z2, z3, z4, z5⟩ := hz
  obtain ⟨y0, y1, y1', y2, y3, y4, y5⟩ := hbig
  obtain ⟨id, lim, pos, most, sum, hs, ⟨sp, hd, cs, ss⟩, sl⟩ := a
  have HE : Hid (acctOk (id, lim, pos, most, sum, hs, (sp, hd, cs, ss), sl) = ((acctIdB id && (inB lim 0 9007199254740992 && (inB most 0 1000 && (inB sum 0 9007199254740992 && isMon pos)))) && (holdsOk hs && (ringOk (sp, hd, cs, ss) && (slotsOk sl && decide (satVal pos (storedL hs) ≤ lim)))))) := Lib.hid rfl
  simp only [aId, aLim, aPos, aMost, aSum, aH, aS] at r1 r2 r3 r4 z1 z2 z3 z4 z5 y0 y1 y1' y2 y3 y4 y5 ⊢
  obtain ⟨AH, cH, rfl, -⟩ := Rep.slice_form r1
  obtain ⟨AC, cC, rfl, -⟩ := r2.form
  obtain ⟨AS, cS, rfl, -⟩ := r3.form
  obtain ⟨AL, cL, rfl, -⟩ := Rep.slice_form r4
  have HQ1 := Lib.hid (fun W (hW : Below w.heap.size w W) => specHoldsOk_any hi _ hs W z1 y1' (Rep.below (R := HoldsR) r1 hW hh) (Nat.le_trans hh hW.size))
  have HQ2 := Lib.hid (fun W (hW : Below w.heap.size w W) => specRingOk_any hi _ _ (sp, hd, cs, ss) W (r2.below hW hh) (r3.below hW hh) (Nat.le_trans hh hW.size) z2 z3)
  have HQ3 := Lib.hid (fun W (hW : Below w.heap.size w W) => specSlotsOk_any hi _ sl W (by omega) (fun x hx => ⟨(y5 x hx).1, (y5 x hx).2.1⟩) (Rep.below (R := SlotsR) r4 hW hh) (Nat.le_trans hh hW.size))
  have HQ4 := Lib.hid (fun W (hW : Below w.heap.size w W) => specStored_any hi _ hs W z1 (Rep.below (R := HoldsR) r1 hW hh) (Nat.le_trans hh hW.size))
  have HQ5 := Lib.hid (fun W => specSat_any pos (storedL hs) W)
  have HI0 := Lib.hid (fun W => specAcctIdOk_any id W y0)
  have HI1 := Lib.hid (fun W => inB_any lim 0 9007199254740992 W)
  have HI2 := Lib.hid (fun W => inB_any most 0 1000 W)
  have HI3 := Lib.hid (fun W => inB_any sum 0 9007199254740992 W)
  have HI4 := Lib.hid (fun W => l01Money_any pos W)
  clear r1 r2 r3 r4 y0 y1 y1' y2 y3 y4 y5 z5
  generalize acctIdB id = b0 at HE HI0
  generalize inB lim 0 9007199254740992 = b1 at HE HI1
  generalize inB most 0 1000 = b2 at HE HI2
  generalize inB sum 0 9007199254740992 = b3 at HE HI3
  generalize isMon pos = b4 at HE HI4
  generalize holdsOk hs = t1 at HE HQ1
  generalize ringOk (sp, hd, cs, ss) = t2 at HE HQ2
  generalize slotsOk sl = t3 at HE HQ3
  generalize satVal pos (storedL hs) = sv at HE HQ5
  generalize storedL hs = st at HQ4 HQ5
  go_enter Tryz.func81, Tryz.ntmps81
  go_upto_region 1 with fail
  obtain ⟨W, hW⟩ : ∃ W, W = w.alloc (.cells #[.string id, .int .i64 lim, .int .i64 pos, .int .i64 most, .int .i64 sum, .slice AH hs.length cH, .int .i64 sp, .int .i64 hd, .slice AC cs.length cC, .slice AS ss.length cS, .slice AL sl.length cL] 29) := ⟨_, rfl⟩
  have bb : bk W w.heap.size 29 [.string id, .int .i64 lim, .int .i64 pos, .int .i64 most, .int .i64 sum, .slice AH hs.length cH, .int .i64 sp, .int .i64 hd, .slice AC cs.length cC, .slice AS ss.length cS, .slice AL sl.length cL] := by rw [hW]; exact bk.new w _ _
  have HBW : Hid (Below w.heap.size w W) := Lib.hid (by rw [hW]; exact (Below.refl _ _).alloc (Nat.le_refl _) _)
  have x0 : w.heap.size + 1 ≤ W.heap.size := by rw [hW]; simp
  rw [← hW]
  clear hW
  obtain ⟨⟨p0, p1, p2, p3, p4, p5, p6, p7, p8, p9, p10⟩, -⟩ := bb.eleven
  have B0 := Lib.hid bb
  clear bb
  go_wp2_with fail
  refine (HI0.out W).mono ?_
  rintro e W3 ⟨rfl, hb3⟩
  have x3 := hb3.size
  have HB3 : Hid (Below w.heap.size w W3) := Lib.hid (HBW.out.trans (hb3.mono (by omega)))
  have B3 := Lib.hid (B0.out.below hb3 (by omega))
  clear hb3 HBW p0 p1 p2 p3 p4 p5 p6 p7 p8 p9 p10 B0
  obtain ⟨⟨p0, p1, p2, p3, p4, p5, p6, p7, p8, p9, p10⟩, -⟩ := B3.out.eleven
  cases b0
  · have HN := Lib.hid (HE.out.trans (show _ = false by simp))
    go_wp2
    go_ret
    exact ⟨by rw [HN.out]; rfl, HB3.out⟩
  go_wp2_with fail
  refine (HI1.out _).mono ?_
  rintro e w1 ⟨rfl, rfl⟩
  cases b1
  · have HN := Lib.hid (HE.out.trans (show _ = false by simp))
    go_wp2
    go_ret
    exact ⟨by rw [HN.out]; rfl, HB3.out⟩
  go_wp2_with fail
  refine (HI2.out _).mono ?_
  rintro e w1 ⟨rfl, rfl⟩
  cases b2
  · have HN := Lib.hid (HE.out.trans (show _ = false by simp))
    go_wp2
    go_ret
    exact ⟨by rw [HN.out]; rfl, HB3.out⟩
  go_wp2_with fail
  refine (HI3.out _).mono ?_
  rintro e w1 ⟨rfl, rfl⟩
  cases b3
  · have HN := Lib.hid (HE.out.trans (show _ = false by simp))
    go_wp2
    go_ret
    exact ⟨by rw [HN.out]; rfl, HB3.out⟩
  go_wp2_with fail
  refine (HI4.out _).mono ?_
  rintro e w1 ⟨rfl, rfl⟩
  cases b4
  · have HN := Lib.hid (HE.out.trans (show _ = false by simp))
    go_wp2
    go_ret
    exact ⟨by rw [HN.out]; rfl, HB3.out⟩
  have HE3 : Hid (acctOk (id, lim, pos, most, sum, hs, (sp, hd, cs, ss), sl) = (t1 && (t2 && (t3 && decide (sv ≤ lim))))) := Lib.hid (by rw [HE.out]; rfl)
  clear HE HI0 HI1 HI2 HI3 HI4
  go_upto_region 3 with fail
  have HX : Hid (Ext W3 W3.drew) := Lib.hid (Ext.refl W3).drew
  have HBX : Hid (∀ W, Ext W3 W → Below w.heap.size w W) := Lib.hid fun W hW => HB3.out.trans (hW.below.mono (by omega))
  have P0 := Lib.hid p0
  have P1 := Lib.hid p1
  have P2 := Lib.hid p2
  have P3 := Lib.hid p3
  have P4 := Lib.hid p4
  have P5 := Lib.hid p5
  have P6 := Lib.hid p6
  have P7 := Lib.hid p7
  have P8 := Lib.hid p8
  have P9 := Lib.hid p9
  have P10 := Lib.hid p10
  clear p0 p1 p2 p3 p4 p5 p6 p7 p8 p9 p10
  cases t1
  · refine quiet_region (C := Ext W3) (by kernel_rfl) (by kernel_rfl) HX.out ?_
    repeat (first
      | go_big_quiet_skip
      | (go_big_quiet_want; go_big_quiet_op; go_big_quiet_on)
      | (go_big_quiet_want; go_big_quiet_op; apply Exists.intro; refine ⟨fun _ _ => rfl, ?_⟩; go_big_quiet_on)
      | (go_big_quiet_want
         apply Exists.intro
         refine ⟨fun W hW => ?_, ?_⟩
         (have q1 := hW.cell P1.out (by omega)
          have q2 := hW.cell P2.out (by omega)
          have q5 := hW.cell P5.out (by omega)
          have q6 := hW.cell P6.out (by omega)
          have q7 := hW.cell P7.out (by omega)
          have q8 := hW.cell P8.out (by omega)
          have q9 := hW.cell P9.out (by omega)
          have q10 := hW.cell P10.out (by omega)
          unfold Oper.quietAt
          go_simp
          rfl)
         simp only [Act.put, List.setIfInBounds_toArray, List.set_cons_zero, List.set_cons_succ]
         go_big_quiet_on)
      | (go_big_quiet_want
         apply Exists.intro
         refine ⟨fun W hW => ?_, ?_⟩
         (unfold Oper.quietAt
          go_simp
          go_at_call 163
          refine (HQ1.out W (HBX.out W hW)).mono ?_
          rintro e w4 ⟨rfl, hb4⟩
          exact ⟨rfl, hW.step hb4⟩)
         simp only [Act.put, List.setIfInBounds_toArray, List.set_cons_zero, List.set_cons_succ]
         go_big_quiet_on)
      | (go_big_quiet_want
         apply Exists.intro
         refine ⟨fun W hW => ?_, ?_⟩
         (unfold Oper.quietAt
          go_simp
          go_at_call 164
          refine (HQ2.out W (HBX.out W hW)).mono ?_
          rintro e w4 ⟨rfl, hb4⟩
          exact ⟨rfl, hW.step hb4⟩)
         simp only [Act.put, List.setIfInBounds_toArray, List.set_cons_zero, List.set_cons_succ]
         go_big_quiet_on)
      | (go_big_quiet_want
         apply Exists.intro
         refine ⟨fun W hW => ?_, ?_⟩
         (unfold Oper.quietAt
          go_simp
          go_at_call 165
          refine (HQ3.out W (HBX.out W hW)).mono ?_
          rintro e w4 ⟨rfl, hb4⟩
          exact ⟨rfl, hW.step hb4⟩)
         simp only [Act.put, List.setIfInBounds_toArray, List.set_cons_zero, List.set_cons_succ]
         go_big_quiet_on)
      | (go_big_quiet_want
         apply Exists.intro
         refine ⟨fun W hW => ?_, ?_⟩
         (unfold Oper.quietAt
          go_simp
          go_at_call 115
          refine (HQ4.out W (HBX.out W hW)).mono ?_
          rintro e w4 ⟨rfl, hb4⟩
          exact ⟨rfl, hW.step hb4⟩)
         simp only [Act.put, List.setIfInBounds_toArray, List.set_cons_zero, List.set_cons_succ]
         go_big_quiet_on)
      | (go_big_quiet_want
         apply Exists.intro
         refine ⟨fun W hW => ?_, ?_⟩
         (unfold Oper.quietAt
          go_simp
          go_at_call 114
          refine (HQ5.out W).mono ?_
          rintro e w4 ⟨rfl, rfl⟩
          exact ⟨rfl, hW⟩)
         simp only [Act.put, List.setIfInBounds_toArray, List.set_cons_zero, List.set_cons_succ]
         go_big_quiet_on))
    refine wpQuiet_nil ?_
    intro W4 hW4
    go_wp2
    go_ret
    exact ⟨by rw [HE3.out]; rfl, HBX.out W4 hW4⟩
  cases t2
  · refine quiet_region (C := Ext W3) (by kernel_rfl) (by kernel_rfl) HX.out ?_
    repeat (first
      | go_big_quiet_skip
      | (go_big_quiet_want; go_big_quiet_op; go_big_quiet_on)
      | (go_big_quiet_want; go_big_quiet_op; apply Exists.intro; refine ⟨fun _ _ => rfl, ?_⟩; go_big_quiet_on)
      | (go_big_quiet_want
         apply Exists.intro
         refine ⟨fun W hW => ?_, ?_⟩
         (have q1 := hW.cell P1.out (by omega)
          have q2 := hW.cell P2.out (by omega)
          have q5 := hW.cell P5.out (by omega)
          have q6 := hW.cell P6.out (by omega)
          have q7 := hW.cell P7.out (by omega)
          have q8 := hW.cell P8.out (by omega)
          have q9 := hW.cell P9.out (by omega)
          have q10 := hW.cell P10.out (by omega)
          unfold Oper.quietAt
          go_simp
          rfl)
         simp only [Act.put, List.setIfInBounds_toArray, List.set_cons_zero, List.set_cons_succ]
         go_big_quiet_on)
      | (go_big_quiet_want
         apply Exists.intro
         refine ⟨fun W hW => ?_, ?_⟩
         (unfold Oper.quietAt
          go_simp
          go_at_call 163
          refine (HQ1.out W (HBX.out W hW)).mono ?_
          rintro e w4 ⟨rfl, hb4⟩
          exact ⟨rfl, hW.step hb4⟩)
         simp only [Act.put, List.setIfInBounds_toArray, List.set_cons_zero, List.set_cons_succ]
         go_big_quiet_on)
      | (go_big_quiet_want
         apply Exists.intro
         refine ⟨fun W hW => ?_, ?_⟩
         (unfold Oper.quietAt
          go_simp
          go_at_call 164
          refine (HQ2.out W (HBX.out W hW)).mono ?_
          rintro e w4 ⟨rfl, hb4⟩
          exact ⟨rfl, hW.step hb4⟩)
         simp only [Act.put, List.setIfInBounds_toArray, List.set_cons_zero, List.set_cons_succ]
         go_big_quiet_on)
      | (go_big_quiet_want
         apply Exists.intro
         refine ⟨fun W hW => ?_, ?_⟩
         (unfold Oper.quietAt
          go_simp
          go_at_call 165
          refine (HQ3.out W (HBX.out W hW)).mono ?_
          rintro e w4 ⟨rfl, hb4⟩
          exact ⟨rfl, hW.step hb4⟩)
         simp only [Act.put, List.setIfInBounds_toArray, List.set_cons_zero, List.set_cons_succ]
         go_big_quiet_on)
      | (go_big_quiet_want
         apply Exists.intro
         refine ⟨fun W hW => ?_, ?_⟩
         (unfold Oper.quietAt
          go_simp
          go_at_call 115
          refine (HQ4.out W (HBX.out W hW)).mono ?_
          rintro e w4 ⟨rfl, hb4⟩
          exact ⟨rfl, hW.step hb4⟩)
         simp only [Act.put, List.setIfInBounds_toArray, List.set_cons_zero, List.set_cons_succ]
         go_big_quiet_on)
      | (go_big_quiet_want
         apply Exists.intro
         refine ⟨fun W hW => ?_, ?_⟩
         (unfold Oper.quietAt
          go_simp
          go_at_call 114
          refine (HQ5.out W).mono ?_
          rintro e w4 ⟨rfl, rfl⟩
          exact ⟨rfl, hW⟩)
         simp only [Act.put, List.setIfInBounds_toArray, List.set_cons_zero, List.set_cons_succ]
         go_big_quiet_on))
    refine wpQuiet_nil ?_
    intro W4 hW4
    go_wp2
    go_ret
    exact ⟨by rw [HE3.out]; rfl, HBX.out W4 hW4⟩
  cases t3
  · refine quiet_region (C := Ext W3) (by kernel_rfl) (by kernel_rfl) HX.out ?_
    repeat (first
      | go_big_quiet_skip
      | (go_big_quiet_want; go_big_quiet_op; go_big_quiet_on)
      | (go_big_quiet_want; go_big_quiet_op; apply Exists.intro; refine ⟨fun _ _ => rfl, ?_⟩; go_big_quiet_on)
      | (go_big_quiet_want
         apply Exists.intro
         refine ⟨fun W hW => ?_, ?_⟩
         (have q1 := hW.cell P1.out (by omega)
          have q2 := hW.cell P2.out (by omega)
          have q5 := hW.cell P5.out (by omega)
          have q6 := hW.cell P6.out (by omega)
          have q7 := hW.cell P7.out (by omega)
          have q8 := hW.cell P8.out (by omega)
          have q9 := hW.cell P9.out (by omega)
          have q10 := hW.cell P10.out (by omega)
          unfold Oper.quietAt
          go_simp
          rfl)
         simp only [Act.put, List.setIfInBounds_toArray, List.set_cons_zero, List.set_cons_succ]
         go_big_quiet_on)
      | (go_big_quiet_want
         apply Exists.intro
         refine ⟨fun W hW => ?_, ?_⟩
         (unfold Oper.quietAt
          go_simp
          go_at_call 163
          refine (HQ1.out W (HBX.out W hW)).mono ?_
          rintro e w4 ⟨rfl, hb4⟩
          exact ⟨rfl, hW.step hb4⟩)
         simp only [Act.put, List.setIfInBounds_toArray, List.set_cons_zero, List.set_cons_succ]
         go_big_quiet_on)
      | (go_big_quiet_want
         apply Exists.intro
         refine ⟨fun W hW => ?_, ?_⟩
         (unfold Oper.quietAt
          go_simp
          go_at_call 164
          refine (HQ2.out W (HBX.out W hW)).mono ?_
          rintro e w4 ⟨rfl, hb4⟩
          exact ⟨rfl, hW.step hb4⟩)
         simp only [Act.put, List.setIfInBounds_toArray, List.set_cons_zero, List.set_cons_succ]
         go_big_quiet_on)
      | (go_big_quiet_want
         apply Exists.intro
         refine ⟨fun W hW => ?_, ?_⟩
         (unfold Oper.quietAt
          go_simp
          go_at_call 165
          refine (HQ3.out W (HBX.out W hW)).mono ?_
          rintro e w4 ⟨rfl, hb4⟩
          exact ⟨rfl, hW.step hb4⟩)
         simp only [Act.put, List.setIfInBounds_toArray, List.set_cons_zero, List.set_cons_succ]
         go_big_quiet_on)
      | (go_big_quiet_want
         apply Exists.intro
         refine ⟨fun W hW => ?_, ?_⟩
         (unfold Oper.quietAt
          go_simp
          go_at_call 115
          refine (HQ4.out W (HBX.out W hW)).mono ?_
          rintro e w4 ⟨rfl, hb4⟩
          exact ⟨rfl, hW.step hb4⟩)
         simp only [Act.put, List.setIfInBounds_toArray, List.set_cons_zero, List.set_cons_succ]
         go_big_quiet_on)
      | (go_big_quiet_want
         apply Exists.intro
         refine ⟨fun W hW => ?_, ?_⟩
         (unfold Oper.quietAt
          go_simp
          go_at_call 114
          refine (HQ5.out W).mono ?_
          rintro e w4 ⟨rfl, rfl⟩
          exact ⟨rfl, hW⟩)
         simp only [Act.put, List.setIfInBounds_toArray, List.set_cons_zero, List.set_cons_succ]
         go_big_quiet_on))
    refine wpQuiet_nil ?_
    intro W4 hW4
    go_wp2
    go_ret
    exact ⟨by rw [HE3.out]; rfl, HBX.out W4 hW4⟩
  by_cases hle : sv ≤ lim
  · refine quiet_region (C := Ext W3) (by kernel_rfl) (by kernel_rfl) HX.out ?_
    repeat (first
      | go_big_quiet_skip
      | (go_big_quiet_want; go_big_quiet_op; go_big_quiet_on)
      | (go_big_quiet_want; go_big_quiet_op; apply Exists.intro; refine ⟨fun _ _ => rfl, ?_⟩; go_big_quiet_on)
      | (go_big_quiet_want
         apply Exists.intro
         refine ⟨fun W hW => ?_, ?_⟩
         (have q1 := hW.cell P1.out (by omega)
          have q2 := hW.cell P2.out (by omega)
          have q5 := hW.cell P5.out (by omega)
          have q6 := hW.cell P6.out (by omega)
          have q7 := hW.cell P7.out (by omega)
          have q8 := hW.cell P8.out (by omega)
          have q9 := hW.cell P9.out (by omega)
          have q10 := hW.cell P10.out (by omega)
          unfold Oper.quietAt
          go_simp
          rfl)
         simp only [Act.put, List.setIfInBounds_toArray, List.set_cons_zero, List.set_cons_succ]
         go_big_quiet_on)
      | (go_big_quiet_want
         apply Exists.intro
         refine ⟨fun W hW => ?_, ?_⟩
         (unfold Oper.quietAt
          go_simp
          go_at_call 163
          refine (HQ1.out W (HBX.out W hW)).mono ?_
          rintro e w4 ⟨rfl, hb4⟩
          exact ⟨rfl, hW.step hb4⟩)
         simp only [Act.put, List.setIfInBounds_toArray, List.set_cons_zero, List.set_cons_succ]
         go_big_quiet_on)
      | (go_big_quiet_want
         apply Exists.intro
         refine ⟨fun W hW => ?_, ?_⟩
         (unfold Oper.quietAt
          go_simp
          go_at_call 164
          refine (HQ2.out W (HBX.out W hW)).mono ?_
          rintro e w4 ⟨rfl, hb4⟩
          exact ⟨rfl, hW.step hb4⟩)
         simp only [Act.put, List.setIfInBounds_toArray, List.set_cons_zero, List.set_cons_succ]
         go_big_quiet_on)
      | (go_big_quiet_want
         apply Exists.intro
         refine ⟨fun W hW => ?_, ?_⟩
         (unfold Oper.quietAt
          go_simp
          go_at_call 165
          refine (HQ3.out W (HBX.out W hW)).mono ?_
          rintro e w4 ⟨rfl, hb4⟩
          exact ⟨rfl, hW.step hb4⟩)
         simp only [Act.put, List.setIfInBounds_toArray, List.set_cons_zero, List.set_cons_succ]
         go_big_quiet_on)
      | (go_big_quiet_want
         apply Exists.intro
         refine ⟨fun W hW => ?_, ?_⟩
         (unfold Oper.quietAt
          go_simp
          go_at_call 115
          refine (HQ4.out W (HBX.out W hW)).mono ?_
          rintro e w4 ⟨rfl, hb4⟩
          exact ⟨rfl, hW.step hb4⟩)
         simp only [Act.put, List.setIfInBounds_toArray, List.set_cons_zero, List.set_cons_succ]
         go_big_quiet_on)
      | (go_big_quiet_want
         apply Exists.intro
         refine ⟨fun W hW => ?_, ?_⟩
         (unfold Oper.quietAt
          go_simp
          go_at_call 114
          refine (HQ5.out W).mono ?_
          rintro e w4 ⟨rfl, rfl⟩
          exact ⟨rfl, hW⟩)
         simp only [Act.put, List.setIfInBounds_toArray, List.set_cons_zero, List.set_cons_succ]
         go_big_quiet_on))
    refine wpQuiet_nil ?_
    intro W4 hW4
    go_wp2
    go_ret
    exact ⟨by rw [HE3.out]; simp [hle], HBX.out W4 hW4⟩
  · refine quiet_region (C := Ext W3) (by kernel_rfl) (by kernel_rfl) HX.out ?_
    repeat (first
      | go_big_quiet_skip
      | (go_big_quiet_want; go_big_quiet_op; go_big_quiet_on)
      | (go_big_quiet_want; go_big_quiet_op; apply Exists.intro; refine ⟨fun _ _ => rfl, ?_⟩; go_big_quiet_on)
      | (go_big_quiet_want
         apply Exists.intro
         refine ⟨fun W hW => ?_, ?_⟩
         (have q1 := hW.cell P1.out (by omega)
          have q2 := hW.cell P2.out (by omega)
          have q5 := hW.cell P5.out (by omega)
          have q6 := hW.cell P6.out (by omega)
          have q7 := hW.cell P7.out (by omega)
          have q8 := hW.cell P8.out (by omega)
          have q9 := hW.cell P9.out (by omega)
          have q10 := hW.cell P10.out (by omega)
          unfold Oper.quietAt
          go_simp
          rfl)
         simp only [Act.put, List.setIfInBounds_toArray, List.set_cons_zero, List.set_cons_succ]
         go_big_quiet_on)
      | (go_big_quiet_want
         apply Exists.intro
         refine ⟨fun W hW => ?_, ?_⟩
         (unfold Oper.quietAt
          go_simp
          go_at_call 163
          refine (HQ1.out W (HBX.out W hW)).mono ?_
          rintro e w4 ⟨rfl, hb4⟩
          exact ⟨rfl, hW.step hb4⟩)
         simp only [Act.put, List.setIfInBounds_toArray, List.set_cons_zero, List.set_cons_succ]
         go_big_quiet_on)
      | (go_big_quiet_want
         apply Exists.intro
         refine ⟨fun W hW => ?_, ?_⟩
         (unfold Oper.quietAt
          go_simp
          go_at_call 164
          refine (HQ2.out W (HBX.out W hW)).mono ?_
          rintro e w4 ⟨rfl, hb4⟩
          exact ⟨rfl, hW.step hb4⟩)
         simp only [Act.put, List.setIfInBounds_toArray, List.set_cons_zero, List.set_cons_succ]
         go_big_quiet_on)
      | (go_big_quiet_want
         apply Exists.intro
         refine ⟨fun W hW => ?_, ?_⟩
         (unfold Oper.quietAt
          go_simp
          go_at_call 165
          refine (HQ3.out W (HBX.out W hW)).mono ?_
          rintro e w4 ⟨rfl, hb4⟩
          exact ⟨rfl, hW.step hb4⟩)
         simp only [Act.put, List.setIfInBounds_toArray, List.set_cons_zero, List.set_cons_succ]
         go_big_quiet_on)
      | (go_big_quiet_want
         apply Exists.intro
         refine ⟨fun W hW => ?_, ?_⟩
         (unfold Oper.quietAt
          go_simp
          go_at_call 115
          refine (HQ4.out W (HBX.out W hW)).mono ?_
          rintro e w4 ⟨rfl, hb4⟩
          exact ⟨rfl, hW.step hb4⟩)
         simp only [Act.put, List.setIfInBounds_toArray, List.set_cons_zero, List.set_cons_succ]
         go_big_quiet_on)
      | (go_big_quiet_want
         apply Exists.intro
         refine ⟨fun W hW => ?_, ?_⟩
         (unfold Oper.quietAt
          go_simp
          go_at_call 114
          refine (HQ5.out W).mono ?_
          rintro e w4 ⟨rfl, rfl⟩
          exact ⟨rfl, hW⟩)
         simp only [Act.put, List.setIfInBounds_toArray, List.set_cons_zero, List.set_cons_succ]
         go_big_quiet_on))
    refine wpQuiet_nil ?_
    intro W4 hW4
    go_wp2
    go_ret
    exact ⟨by rw [HE3.out]; simp [hle], HBX.out W4 hW4⟩
end Go.Proofs.YtnmijppppcgobaaGreatDoor
set_option linter.unusedVariables false
namespace Go.Proofs.YtnmijppppcgobaaGreatDoor
open Go.ChangeShapes Go.WideShapes Go.ChangeAt Go.RowKit

set_option maxRecDepth 100000 in
theorem infoIntN : (Tryz.prog.info? 3).map (fun i => (i.zero.map (·.cells), i.size, i.bytes)) = some (some #[.int .i64 0], 1, 8) := by kernel_rfl
def ringNew (n sp : Int) : RingD × Bool := if (inB n 1 8 && inB sp 1 1000) = true then ((sp, 0, List.replicate n.toNat 0, List.replicate n.toNat 0), true) else ((0, 0, [], []), false)
def ringRes (r : RingD) (ok : Bool) (w : World) (e : Ending) (w' : World) : Prop := ∃ vc vs, e = .returned (.tuple #[.agg #[.int .i64 r.1, .int .i64 r.2.1, vc, vs], .bool ok]) ∧ RingR.mine w.heap.size w'.heap.size w' [.int .i64 r.1, .int .i64 r.2.1, vc, vs] r ∧ Below w.heap.size w w'

set_option maxRecDepth 100000 in
theorem ringNew_len (n sp : Int) : (ringNew n sp).1.2.2.1.length ≤ 8 ∧ (ringNew n sp).1.2.2.2.length ≤ 8 := by
  unfold ringNew
  split
  · rename_i h
    simp only [Bool.and_eq_true, inB, decide_eq_true_eq] at h
    simp only [List.length_replicate]; omega
  · exact ⟨Nat.zero_le _, Nat.zero_le _⟩

set_option maxRecDepth 100000 in
/-- zeros that have just been made -/
theorem made_nums {w : World} {g k lo hi : Nat} {T : TypeId} (u : World) (hu : u.heap.size = g) (h : w.heap[g]? = (u.alloc (.cells (madeCells #[.int .i64 0] k) T)).heap[g]?) (h1 : lo ≤ g) (h2 : g < hi) : nums .i64 lo hi w (.slice (some ⟨g, 0, none⟩) k k) (List.replicate k 0) := by
  subst hu
  have hr := World.rowIs_made u (.int .i64 0) k T
  refine ⟨_, k, by simp, by simp, fun j hj => ⟨u.heap.size, 0, rfl, h1, h2, ?_, ?_⟩⟩
  · rw [List.length_replicate] at hj
    rw [Nat.zero_add, cell_keep h, World.rowIs.cell hr hj, List.getD_eq_getElem?_getD, List.getElem?_replicate, if_pos hj]
    rfl
  · rw [frozen_keep h]; exact World.rowIs.frozen hr _

set_option maxRecDepth 100000 in
set_option maxHeartbeats 4000000 in
theorem specRingNew_any (n sp : Int) (w : World) :
    Calls Tryz.prog 190 #[.int .i64 n, .int .i64 sp] w (ringRes (ringNew n sp).1 (ringNew n sp).2 w) := by
  have HD : Hid (ringNew n sp = if (inB n 1 8 && inB sp 1 1000) = true then ((sp, 0, List.replicate n.toNat 0, List.replicate n.toNat 0), true) else ((0, 0, [], []), false)) := Lib.hid rfl
  have HI1 := Lib.hid (fun w => inB_any n 1 8 w)
  have HI2 := Lib.hid (fun w => inB_any sp 1 1000 w)
  have hn8 : inB n 1 8 = true → 1 ≤ n ∧ n ≤ 8 := fun h => by simpa [inB] using h
  generalize inB n 1 8 = b1 at HI1 HD hn8
  generalize inB sp 1 1000 = b2 at HI2 HD
  have hrow := heap_alloc_new w (.cells #[.int .i64 0, .int .i64 0, .slice none 0 0, .slice none 0 0] 26)
  have HB0 : Hid (Below w.heap.size w (w.alloc (.cells #[.int .i64 0, .int .i64 0, .slice none 0 0, .slice none 0 0] 26))) := Lib.hid ((Below.refl _ _).alloc (Nat.le_refl _) _)
  cases b1
  · clear hn8
    go_enter Tryz.func190, Tryz.ntmps190
    go_wp2_with fail
    refine (HI1.out _).mono ?_
    rintro e w1 ⟨rfl, rfl⟩
    go_wp2
    refine bodyPost_ret (v := .tuple #[.agg #[.int .i64 0, .int .i64 0, .slice none 0 0, .slice none 0 0], .bool false]) (by simp [results, Tryz.results190, go_sem]) rfl ?_
    rw [HD.out]
    exact ⟨_, _, rfl, ring_mine_of (nums_none _ _ _ _) (nums_none _ _ _ _) (by intro b h; cases h), HB0.out⟩
  cases b2
  · clear hn8
    go_enter Tryz.func190, Tryz.ntmps190
    go_wp2_with fail
    refine (HI1.out _).mono ?_
    rintro e w1 ⟨rfl, rfl⟩
    go_wp2_with fail
    refine (HI2.out _).mono ?_
    rintro e w1 ⟨rfl, rfl⟩
    go_wp2
    refine bodyPost_ret (v := .tuple #[.agg #[.int .i64 0, .int .i64 0, .slice none 0 0, .slice none 0 0], .bool false]) (by simp [results, Tryz.results190, go_sem]) rfl ?_
    rw [HD.out]
    exact ⟨_, _, rfl, ring_mine_of (nums_none _ _ _ _) (nums_none _ _ _ _) (by intro b h; cases h), HB0.out⟩
  obtain ⟨h1, h2⟩ := hn8 rfl
  obtain ⟨k, rfl⟩ := Int.eq_ofNat_of_zero_le (show 0 ≤ n by omega)
  have hmk := fun W => make_run (P := Tryz.prog) 24 3 #[.int .i64 0] 1 8 Tryz.underlying24 infoIntN k (by omega) (by omega) W
  clear hn8
  go_enter Tryz.func190, Tryz.ntmps190
  go_wp2_with fail
  refine (HI1.out _).mono ?_
  rintro e w1 ⟨rfl, rfl⟩
  go_wp2_with fail
  refine (HI2.out _).mono ?_
  rintro e w1 ⟨rfl, rfl⟩
  go_wp2
  go_region
  · go_wp2
    refine bodyPost_ret (v := .tuple #[.agg #[.int .i64 sp, .int .i64 0, .slice (some ⟨w.heap.size + 1, 0, none⟩) k k, .slice (some ⟨w.heap.size + 1 + 1, 0, none⟩) k k], .bool true]) (by simp [results, Tryz.results190, go_sem]) rfl ?_
    rw [HD.out]
    refine ⟨_, _, rfl, ring_mine_of (?_) (?_) (by intro b h h'; cases k <;> simp [Proofs.YtnmijppppcgobaaGreatDoor.blk] at h h'; omega), ((((Below.refl _ _).alloc (Nat.le_refl _) _).alloc (by simp) _).alloc (by simp <;> omega) _).drew⟩
    · show nums .i64 _ _ _ _ (List.replicate k 0)
      exact made_nums (w.alloc _) (by simp) (show (((w.alloc _).alloc _).alloc _).heap[_]? = _ from Below.heap_alloc _ _ _ (by simp)) (by omega) (by show _ < (((w.alloc _).alloc _).alloc _).heap.size; simp)
    · show nums .i64 _ _ _ _ (List.replicate k 0)
      exact made_nums ((w.alloc _).alloc _) (by simp) (show (((w.alloc _).alloc _).alloc _).heap[_]? = _ from rfl) (by omega) (by show _ < (((w.alloc _).alloc _).alloc _).heap.size; simp)
  · go_wp2
    refine bodyPost_ret (v := .tuple #[.agg #[.int .i64 sp, .int .i64 0, .slice (some ⟨w.heap.size + 1 + 1, 0, none⟩) k k, .slice (some ⟨w.heap.size + 1, 0, none⟩) k k], .bool true]) (by simp [results, Tryz.results190, go_sem]) rfl ?_
    rw [HD.out]
    refine ⟨_, _, rfl, ring_mine_of (?_) (?_) (by intro b h h'; cases k <;> simp [Proofs.YtnmijppppcgobaaGreatDoor.blk] at h h'; omega), ((((Below.refl _ _).alloc (Nat.le_refl _) _).alloc (by simp) _).alloc (by simp <;> omega) _).drew⟩
    · show nums .i64 _ _ _ _ (List.replicate k 0)
      exact made_nums ((w.alloc _).alloc _) (by simp) (show (((w.alloc _).alloc _).alloc _).heap[_]? = _ from rfl) (by omega) (by show _ < (((w.alloc _).alloc _).alloc _).heap.size; simp)
    · show nums .i64 _ _ _ _ (List.replicate k 0)
      exact made_nums (w.alloc _) (by simp) (show (((w.alloc _).alloc _).alloc _).heap[_]? = _ from Below.heap_alloc _ _ _ (by simp)) (by omega) (by show _ < (((w.alloc _).alloc _).alloc _).heap.size; simp)
end Go.Proofs.YtnmijppppcgobaaGreatDoor
set_option linter.unusedVariables false
namespace Go.Proofs.YtnmijppppcgobaaGreatDoor
open Go.ChangeShapes Go.WideShapes Go.ChangeAt Go.RowKit

set_option maxRecDepth 100000 in
theorem slots_none (lo hi : Nat) (w : World) : SlotsR.mine lo hi w [.slice none 0 0] [] := ⟨[], ⟨none, 0, rfl, Nat.le_refl _, .inl ⟨rfl, rfl⟩⟩, List.nodup_nil, by simp⟩
abbrev acctNil : AcctD := (⟨#[]⟩, 0, 0, 0, 0, [], (0, 0, [], []), [])
abbrev acctFresh (id : ByteArray) (lim most sum : Int) (r : RingD) : AcctD := (id, lim, 0, most, sum, [], r, [])
def acctNew (id : ByteArray) (lim most sum n sp : Int) : AcctD × Bool := if ((ringNew n sp).2 && acctOk (acctFresh id lim most sum (ringNew n sp).1)) = true then (acctFresh id lim most sum (ringNew n sp).1, true) else (acctNil, false)
/-- an account and a truth as they are given back -/
def acctRes (a : AcctD) (ok : Bool) (w : World) (e : Ending) (w' : World) : Prop := ∃ vh vc vs vl, e = .returned (.tuple #[.agg #[.string (aId a), .int .i64 (aLim a), .int .i64 (aPos a), .int .i64 (aMost a), .int .i64 (aSum a), vh, .int .i64 (aR a).1, .int .i64 (aR a).2.1, vc, vs, vl], .bool ok]) ∧ AcctR.mine w.heap.size w'.heap.size w' (aCells a vh vc vs vl) a ∧ Below w.heap.size w w'
set_option maxRecDepth 100000 in
set_option maxHeartbeats 4000000 in
theorem specAcctNew_any (id : ByteArray) (lim most sum n sp : Int) (w : World) (hid : id.size ≤ maxLen) :
    Calls Tryz.prog 110 #[.string id, .int .i64 lim, .int .i64 most, .int .i64 sum, .int .i64 n, .int .i64 sp] w (acctRes (acctNew id lim most sum n sp).1 (acctNew id lim most sum n sp).2 w) := by
  have HRN := Lib.hid (fun W => specRingNew_any n sp W)
  have hl := ringNew_len n sp
  have HOK := Lib.hid (fun (hi : Nat) (vc vs : Value) (W : World) (h1 : rd .i64 hi W vc (ringNew n sp).1.2.2.1) (h2 : rd .i64 hi W vs (ringNew n sp).1.2.2.2) (hW : hi ≤ W.heap.size) => specAcctOk_any hi (.slice none 0 0) vc vs (.slice none 0 0) (acctFresh id lim most sum (ringNew n sp).1) W ⟨Nat.zero_le _, Nat.le_trans hl.1 (by decide), Nat.le_trans hl.2 (by decide), Nat.zero_le _, fun x hx => (by cases hx)⟩ ⟨hid, Nat.zero_le _, fun x hx => (by cases hx), Nat.le_trans hl.1 (by decide), Nat.le_trans hl.2 (by decide), Nat.zero_le _, fun x hx => (by cases hx)⟩ (acct_rd_of (holds_none 0 hi W).rd h1 h2 (slots_none 0 hi W).rd) hW)
  clear hl hid
  have HD : Hid (acctNew id lim most sum n sp = if ((ringNew n sp).2 && acctOk (acctFresh id lim most sum (ringNew n sp).1)) = true then (acctFresh id lim most sum (ringNew n sp).1, true) else (acctNil, false)) := Lib.hid rfl
  generalize acctOk (acctFresh id lim most sum (ringNew n sp).1) = ao at HD HOK
  generalize acctNew id lim most sum n sp = an at HD ⊢
  obtain ⟨⟨r, ok⟩, hr⟩ : ∃ r, r = ringNew n sp := ⟨_, rfl⟩
  rw [← hr] at HD HOK HRN
  clear hr
  obtain ⟨sp2, hd, cs, ss⟩ := r
  simp only [aId, aLim, aPos, aMost, aSum] at HRN HOK
  go_enter Tryz.func110, Tryz.ntmps110
  go_upto_region 1 with fail
  obtain ⟨W, hW⟩ : ∃ W, W = w.alloc (.cells #[.string ⟨#[]⟩, .int .i64 0, .int .i64 0, .int .i64 0, .int .i64 0, .slice none 0 0, .int .i64 0, .int .i64 0, .slice none 0 0, .slice none 0 0, .slice none 0 0] 29) := ⟨_, rfl⟩
  have b0 : bk W w.heap.size 29 [.string ⟨#[]⟩, .int .i64 0, .int .i64 0, .int .i64 0, .int .i64 0, .slice none 0 0, .int .i64 0, .int .i64 0, .slice none 0 0, .slice none 0 0, .slice none 0 0] := by rw [hW]; exact bk.new w _ _
  have HB0 : Hid (Below w.heap.size w W) := Lib.hid (by rw [hW]; exact (Below.refl _ _).alloc (Nat.le_refl _) _)
  rw [← hW]
  clear hW
  have y0 := b0.lt
  have B0 := Lib.hid b0
  clear b0
  go_wp2_with fail
  refine (HRN.out W).mono ?_
  rintro e w1 ⟨vc, vs, rfl, hm1, hb1⟩
  obtain ⟨xc, xs, hcs, q2, q3⟩ := ring_rd hm1.rd
  simp only [List.cons.injEq, and_true, true_and] at hcs
  obtain ⟨rfl, rfl⟩ := hcs
  obtain ⟨A3, c3, rfl, -⟩ := q2.form
  obtain ⟨A4, c4, rfl, -⟩ := q3.form
  simp only at hm1 q2 q3 ⊢
  have z1 := hb1.size
  have HM1 := Lib.hid hm1
  have HQ := Lib.hid (And.intro q2 q3)
  have HB1 : Hid (Below w.heap.size w w1) := Lib.hid (HB0.out.trans (hb1.mono (by omega)))
  have C0 := Lib.hid (B0.out.below hb1 (by omega))
  clear hm1 hb1 HB0 HRN B0 q2 q3
  go_upto_region 3 with fail
  obtain ⟨W3, hW3⟩ : ∃ W3, W3 = (w1.alloc (.cells #[.int .i64 sp2, .int .i64 hd, .slice A3 cs.length c3, .slice A4 ss.length c4] 26)).alloc (.cells #[.string id, .int .i64 lim, .int .i64 0, .int .i64 most, .int .i64 sum, .slice none 0 0, .int .i64 sp2, .int .i64 hd, .slice A3 cs.length c3, .slice A4 ss.length c4, .slice none 0 0] 29) := ⟨_, rfl⟩
  have b2 : bk W3 (w1.heap.size + 1) 29 [.string id, .int .i64 lim, .int .i64 0, .int .i64 most, .int .i64 sum, .slice none 0 0, .int .i64 sp2, .int .i64 hd, .slice A3 cs.length c3, .slice A4 ss.length c4, .slice none 0 0] := by rw [hW3]; simpa using bk.new (w1.alloc _) 29 [.string id, .int .i64 lim, .int .i64 0, .int .i64 most, .int .i64 sum, .slice none 0 0, .int .i64 sp2, .int .i64 hd, .slice A3 cs.length c3, .slice A4 ss.length c4, .slice none 0 0]
  have hb3 : Below w1.heap.size w1 W3 := by rw [hW3]; exact ((Below.refl _ _).alloc (Nat.le_refl _) _).alloc (by simp) _
  rw [← hW3]
  clear hW3
  have z3 := b2.lt
  have B0 := Lib.hid (C0.out.below hb3 (by omega))
  have B2 := Lib.hid b2
  have HM3 := Lib.hid (HM1.out.below hb3 (Nat.le_refl _))
  have HQ3 := Lib.hid (And.intro (HQ.out.1.below hb3 (Nat.le_refl _)) (HQ.out.2.below hb3 (Nat.le_refl _)))
  have HB3 : Hid (Below w.heap.size w W3) := Lib.hid (HB1.out.trans (hb3.mono (by omega)))
  clear hb3 b2 C0 HM1 HB1 HQ
  cases ok
  · have b1 := B0.out
    replace HD : Hid (an = (acctNil, false)) := Lib.hid (by rw [HD.out]; rfl)
    clear HOK B0 B2 HQ3
    obtain ⟨⟨r0, r1, r2, r3, r4, r5, r6, r7, r8, r9, r10⟩, g0, g1, g2, g3, g4, g5, g6, g7, g8, g9, g10⟩ := b1.eleven
    clear b1
    go_wp2
    refine bodyPost_ret (v := .tuple #[.agg #[.string ⟨#[]⟩, .int .i64 0, .int .i64 0, .int .i64 0, .int .i64 0, .slice none 0 0, .int .i64 0, .int .i64 0, .slice none 0 0, .slice none 0 0, .slice none 0 0], .bool false]) (by simp [results, Tryz.results110, go_sem, r0, r1, r2, r3, r4, r5, r6, r7, r8, r9, r10]) rfl ?_
    have ht := (((((((((((Turned.refl w.heap.size (w.heap.size + 1) W3).set (b := w.heap.size) 0 (.string ⟨#[]⟩) (by omega) (by omega)).set (b := w.heap.size) 1 (.int .i64 0) (by omega) (by omega)).set (b := w.heap.size) 2 (.int .i64 0) (by omega) (by omega)).set (b := w.heap.size) 3 (.int .i64 0) (by omega) (by omega)).set (b := w.heap.size) 4 (.int .i64 0) (by omega) (by omega)).set (b := w.heap.size) 5 (.slice none 0 0) (by omega) (by omega)).set (b := w.heap.size) 6 (.int .i64 0) (by omega) (by omega)).set (b := w.heap.size) 7 (.int .i64 0) (by omega) (by omega)).set (b := w.heap.size) 8 (.slice none 0 0) (by omega) (by omega)).set (b := w.heap.size) 9 (.slice none 0 0) (by omega) (by omega)).set (b := w.heap.size) 10 (.slice none 0 0) (by omega) (by omega)
    have hsz := ht.size
    rw [HD.out]
    exact ⟨_, _, _, _, rfl, acct_mine_ivl (p1 := w.heap.size) (p2 := w.heap.size) (holds_none _ _ _) (ring_mine_of (nums_none _ _ _ _) (nums_none _ _ _ _) (by intro b h; cases h)) (slots_none _ _ _) (by omega) (by omega) (by omega), HB3.out.trans (ht.below (by omega) (by omega))⟩
  obtain ⟨⟨p0, p1, p2, p3, p4, p5, p6, p7, p8, p9, p10⟩, -⟩ := B2.out.eleven
  go_wp2_with fail
  refine (HOK.out w1.heap.size _ _ W3 HQ3.out.1 HQ3.out.2 (by omega)).mono ?_
  rintro e w4 ⟨rfl, hb4⟩
  have z4 := hb4.size
  have b1 := B0.out.below hb4 (by omega)
  have b2 := B2.out.below hb4 (by omega)
  have HM4 := Lib.hid (HM3.out.below hb4 (by omega))
  have HB4 : Hid (Below w.heap.size w w4) := Lib.hid (HB3.out.trans (hb4.mono (by omega)))
  clear hb4 HOK B0 B2 HQ3 HM3 HB3 p0 p1 p2 p3 p4 p5 p6 p7 p8 p9 p10
  cases ao
  · replace HD : Hid (an = (acctNil, false)) := Lib.hid (by rw [HD.out]; rfl)
    clear b2
    obtain ⟨⟨r0, r1, r2, r3, r4, r5, r6, r7, r8, r9, r10⟩, g0, g1, g2, g3, g4, g5, g6, g7, g8, g9, g10⟩ := b1.eleven
    clear b1
    go_wp2
    refine bodyPost_ret (v := .tuple #[.agg #[.string ⟨#[]⟩, .int .i64 0, .int .i64 0, .int .i64 0, .int .i64 0, .slice none 0 0, .int .i64 0, .int .i64 0, .slice none 0 0, .slice none 0 0, .slice none 0 0], .bool false]) (by simp [results, Tryz.results110, go_sem, r0, r1, r2, r3, r4, r5, r6, r7, r8, r9, r10]) rfl ?_
    have ht := (((((((((((Turned.refl w.heap.size (w.heap.size + 1) w4).set (b := w.heap.size) 0 (.string ⟨#[]⟩) (by omega) (by omega)).set (b := w.heap.size) 1 (.int .i64 0) (by omega) (by omega)).set (b := w.heap.size) 2 (.int .i64 0) (by omega) (by omega)).set (b := w.heap.size) 3 (.int .i64 0) (by omega) (by omega)).set (b := w.heap.size) 4 (.int .i64 0) (by omega) (by omega)).set (b := w.heap.size) 5 (.slice none 0 0) (by omega) (by omega)).set (b := w.heap.size) 6 (.int .i64 0) (by omega) (by omega)).set (b := w.heap.size) 7 (.int .i64 0) (by omega) (by omega)).set (b := w.heap.size) 8 (.slice none 0 0) (by omega) (by omega)).set (b := w.heap.size) 9 (.slice none 0 0) (by omega) (by omega)).set (b := w.heap.size) 10 (.slice none 0 0) (by omega) (by omega)
    have hsz := ht.size
    rw [HD.out]
    exact ⟨_, _, _, _, rfl, acct_mine_ivl (p1 := w.heap.size) (p2 := w.heap.size) (holds_none _ _ _) (ring_mine_of (nums_none _ _ _ _) (nums_none _ _ _ _) (by intro b h; cases h)) (slots_none _ _ _) (by omega) (by omega) (by omega), HB4.out.trans (ht.below (by omega) (by omega))⟩
  · replace HD : Hid (an = ((id, lim, 0, most, sum, [], (sp2, hd, cs, ss), []), true)) := Lib.hid (by rw [HD.out]; rfl)
    obtain ⟨⟨p0, p1, p2, p3, p4, p5, p6, p7, p8, p9, p10⟩, -⟩ := b2.eleven
    clear b2
    obtain ⟨⟨r0, r1, r2, r3, r4, r5, r6, r7, r8, r9, r10⟩, g0, g1, g2, g3, g4, g5, g6, g7, g8, g9, g10⟩ := b1.eleven
    clear b1
    go_wp2
    refine bodyPost_ret (v := .tuple #[.agg #[.string id, .int .i64 lim, .int .i64 0, .int .i64 most, .int .i64 sum, .slice none 0 0, .int .i64 sp2, .int .i64 hd, .slice A3 cs.length c3, .slice A4 ss.length c4, .slice none 0 0], .bool true]) (by simp [results, Tryz.results110, go_sem, r0, r1, r2, r3, r4, r5, r6, r7, r8, r9, r10]) rfl ?_
    have ht := (((((((((((Turned.refl w.heap.size (w.heap.size + 1) w4).set (b := w.heap.size) 0 (.string id) (by omega) (by omega)).set (b := w.heap.size) 1 (.int .i64 lim) (by omega) (by omega)).set (b := w.heap.size) 2 (.int .i64 0) (by omega) (by omega)).set (b := w.heap.size) 3 (.int .i64 most) (by omega) (by omega)).set (b := w.heap.size) 4 (.int .i64 sum) (by omega) (by omega)).set (b := w.heap.size) 5 (.slice none 0 0) (by omega) (by omega)).set (b := w.heap.size) 6 (.int .i64 sp2) (by omega) (by omega)).set (b := w.heap.size) 7 (.int .i64 hd) (by omega) (by omega)).set (b := w.heap.size) 8 (.slice A3 cs.length c3) (by omega) (by omega)).set (b := w.heap.size) 9 (.slice A4 ss.length c4) (by omega) (by omega)).set (b := w.heap.size) 10 (.slice none 0 0) (by omega) (by omega)
    have hsz := ht.size
    rw [HD.out]
    exact ⟨_, _, _, _, rfl, acct_mine_ivl (p1 := w.heap.size) (p2 := w1.heap.size) (holds_none _ _ _) ((HM4.out.turned ht (.inr (by omega)) (by omega)).mono (by omega) (by omega)) (slots_none _ _ _) (by omega) (by omega) (by omega), HB4.out.trans (ht.below (by omega) (by omega))⟩
end Go.Proofs.YtnmijppppcgobaaGreatDoor
set_option linter.unusedVariables false
namespace Go.Proofs.YtnmijppppcgobaaGreatDoor
open Go.ChangeShapes Go.WideShapes Go.ChangeAt Go.RowKit

set_option maxRecDepth 100000 in
theorem ow_void (T : TypeId) (K : IntKind) (w : World) : ow T K w.heap.size (w.alloc (.cells #[] T)) (.slice (some ⟨w.heap.size, 0, none⟩) 0 0) [] := by
  refine ⟨rfl, Or.inr ⟨w.heap.size, 0, #[], rfl, Nat.le_refl _, ?_, Nat.le_refl _, Nat.zero_le _, rfl, rfl⟩⟩
  show (w.heap.push _)[w.heap.size]? = _
  simp
set_option maxRecDepth 100000 in
set_option maxHeartbeats 1600000 in
theorem specCopy_any (hi : Nat) (vc vs : Value) (r : RingD) (w : World) (h1 : rd .i64 hi w vc r.2.2.1) (h2 : rd .i64 hi w vs r.2.2.2) (hh : hi ≤ w.heap.size) (hc : r.2.2.1.length ≤ 1048576) (hs : r.2.2.2.length ≤ 1048576) :
    Calls Tryz.prog 159 #[.agg #[.int .i64 r.1, .int .i64 r.2.1, vc, vs]] w (ringOne r w) := by
  obtain ⟨sp, hd, cs, ss⟩ := r
  simp only at h1 h2 hc hs ⊢
  obtain ⟨A1, c1, rfl, -⟩ := h1.form
  obtain ⟨A2, c2, rfl, -⟩ := h2.form
  have HC := Lib.hid h1
  have HS := Lib.hid h2
  clear h1 h2
  go_enter Tryz.func159, Tryz.ntmps159
  go_upto_region 1 with fail
  obtain ⟨W, hW⟩ : ∃ W, W = (w.alloc (.cells #[.int .i64 sp, .int .i64 hd, .slice A1 cs.length c1, .slice A2 ss.length c2] 26)).alloc (.cells #[.int .i64 0, .int .i64 0, .slice none 0 0, .slice none 0 0] 26) := ⟨_, rfl⟩
  have b0 : bk W w.heap.size 26 [.int .i64 sp, .int .i64 hd, .slice A1 cs.length c1, .slice A2 ss.length c2] := by rw [hW]; exact (bk.new w _ _).alloc _
  have b1 : bk W (w.heap.size + 1) 26 [.int .i64 0, .int .i64 0, .slice none 0 0, .slice none 0 0] := by rw [hW]; simpa using bk.new (w.alloc _) _ _
  have HB0 : Hid (Below w.heap.size w W) := Lib.hid (by rw [hW]; exact ((Below.refl _ _).alloc (Nat.le_refl _) _).alloc (by simp) _)
  have z0 : w.heap.size + 2 ≤ W.heap.size := by rw [hW]; simp
  rw [← hW]
  clear hW
  obtain ⟨⟨p0, p1, p2, p3⟩, q0, q1, q2, q3⟩ := b0.cells
  have B0 := Lib.hid b0
  have B1 := Lib.hid b1
  clear b0 b1
  have y0 : w.heap.size < W.heap.size := by omega
  go_wp2_with (at_builtin; refine app_all (W.alloc (.cells #[] 3)) rfl _ _ 24 rfl W.heap.size 3 .i64 8 Tryz.underlying24 infoI64 _ [] rfl (ow_void _ _ W) hi _ cs (by rfl) (HC.out.below (HB0.out.alloc (by omega) _) hh) (by unfold maxLen; simp; omega) (by simp; omega) (by simp) ?_)
  intro v1 w1 hv1 hg1 hb1
  have hn1 := hv1.nums
  obtain ⟨AU, cU, rfl, -⟩ := hn1.form
  have z1 : W.heap.size + 1 ≤ w1.heap.size := by have := hg1.size; simpa using this
  have hb1' : Below W.heap.size W w1 := ((Below.refl _ _).alloc (Nat.le_refl _) _).trans hb1
  have b0 := B0.out.below hb1' (by omega)
  have b1 := B1.out.below hb1' (by omega)
  have HB1 : Hid (Below w.heap.size w w1) := Lib.hid (HB0.out.trans (hb1'.mono (by omega)))
  have HU1 := Lib.hid hn1
  clear hv1 hg1 hb1 hb1' hn1 p0 p1 p2 p3 q0 q1 q2 q3 HB0 B0 B1
  obtain ⟨⟨p0, p1, p2, p3⟩, q0, q1, q2, q3⟩ := b0.cells
  have B0 := Lib.hid b0
  have B1 := Lib.hid b1
  clear b0 b1
  go_upto_region 2 with fail
  obtain ⟨W2, hW2⟩ : ∃ W2, W2 = w1.setCell ⟨w.heap.size, 2, none⟩ (.slice AU cs.length cU) := ⟨_, rfl⟩
  rw [← hW2]
  have b0 := B0.out.set 2 (.slice AU cs.length cU)
  have b1 := B1.out.far (p := ⟨w.heap.size, 2, none⟩) (show w.heap.size + 1 ≠ w.heap.size by omega) (.slice AU cs.length cU)
  rw [← hW2] at b0 b1
  have HU2 : Hid (nums .i64 W.heap.size w1.heap.size W2 (.slice AU cs.length cU) cs) := Lib.hid (by rw [hW2]; exact HU1.out.far _ (fun h => by have := HU1.out.blk _ h; omega))
  have HB2 : Hid (Below w.heap.size w W2) := Lib.hid (by rw [hW2]; exact HB1.out.setCell (p := ⟨_, _, none⟩) (Nat.le_refl _) _)
  have z2 : w1.heap.size ≤ W2.heap.size := by rw [hW2]; simp
  clear hW2 p0 p1 p2 p3 q0 q1 q2 q3 HU1 HB1 B0 B1
  obtain ⟨⟨p0, p1, p2, p3⟩, q0, q1, q2, q3⟩ := b0.cells
  have B0 := Lib.hid b0
  have B1 := Lib.hid b1
  clear b0 b1
  have y2 : w.heap.size < W2.heap.size := by omega
  go_wp2_with (at_builtin; refine app_all (W2.alloc (.cells #[] 3)) rfl _ _ 24 rfl W2.heap.size 3 .i64 8 Tryz.underlying24 infoI64 _ [] rfl (ow_void _ _ W2) hi _ ss (by rfl) (HS.out.below (HB2.out.alloc (by omega) _) hh) (by unfold maxLen; simp; omega) (by simp; omega) (by simp) ?_)
  intro v3 w3 hv3 hg3 hb3
  have hn3 := hv3.nums
  obtain ⟨AV, cV, rfl, -⟩ := hn3.form
  have z3 : W2.heap.size + 1 ≤ w3.heap.size := by have := hg3.size; simpa using this
  have hb3' : Below W2.heap.size W2 w3 := ((Below.refl _ _).alloc (Nat.le_refl _) _).trans hb3
  have b0 := B0.out.below hb3' (by omega)
  have b1 := B1.out.below hb3' (by omega)
  have HB3 : Hid (Below w.heap.size w w3) := Lib.hid (HB2.out.trans (hb3'.mono (by omega)))
  have HU3 := Lib.hid (HU2.out.below hb3' (by omega))
  have HV3 := Lib.hid hn3
  clear hv3 hg3 hb3 hb3' hn3 p0 p1 p2 p3 q0 q1 q2 q3 HB2 B0 B1 HU2
  obtain ⟨⟨p0, p1, p2, p3⟩, q0, q1, q2, q3⟩ := b0.cells
  obtain ⟨⟨r0, r1, r2, r3⟩, f0, f1, f2, f3⟩ := b1.cells
  clear b0 b1
  go_wp2
  refine bodyPost_ret (v := .agg #[.int .i64 sp, .int .i64 hd, .slice AU cs.length cU, .slice AV ss.length cV]) (by simp [results, Tryz.results159, go_sem, r0, r1, r2, r3]) rfl ?_
  have ht := (((((Turned.refl w.heap.size (w.heap.size + 2) w3).set (b := w.heap.size) 3 (.slice AV ss.length cV) (by omega) (by omega)).set (b := w.heap.size + 1) 0 (.int .i64 sp) (by omega) (by omega)).set (b := w.heap.size + 1) 1 (.int .i64 hd) (by omega) (by omega)).set (b := w.heap.size + 1) 2 (.slice AU cs.length cU) (by omega) (by omega)).set (b := w.heap.size + 1) 3 (.slice AV ss.length cV) (by omega) (by omega)
  have hsz := ht.size
  exact ⟨_, _, rfl, ring_mine_of ((HU3.out.turned ht (.inr (by omega)) (by omega)).mono (by omega) (by omega)) ((HV3.out.turned ht (.inr (by omega)) (by omega)).mono (by omega) (by omega)) (fun b h h' => by have h5 := HU3.out.blk b h; have h6 := HV3.out.blk b h'; omega), HB3.out.trans (ht.below (Nat.le_refl _) (by omega))⟩
end Go.Proofs.YtnmijppppcgobaaGreatDoor
set_option linter.unusedVariables false
namespace Go.Proofs.YtnmijppppcgobaaGreatDoor
open Go.ChangeShapes Go.WideShapes Go.ChangeAt Go.RowKit

/-- a slot with the slice that its reply lies in -/
abbrev SlotV := SlotD × (Option Addr × Nat)
def sv (x : SlotV) : Value := .slice x.2.1 x.1.2.2.length x.2.2
def sCells (x : SlotV) : List Value := [.string x.1.1, .string x.1.2.1, .slice x.2.1 x.1.2.2.length x.2.2]
/-- the replies' memory: one after the other, none of it the row's -/
structure replies (w : World) (row : Option Nat) (B : Nat) (ps : List SlotV) (p q : Nat → Nat) : Prop where
  own : ∀ j x, ps[j]? = some x → nums .u8 (p j) (q j) w (sv x) x.1.2.2
  ord : ∀ i j, i < j → j < ps.length → q i ≤ p j
  in_ : ∀ j, j < ps.length → B ≤ p j ∧ q j ≤ w.heap.size
  row : ∀ j, j < ps.length → ∀ g, row = some g → g < p j ∨ q j ≤ g
set_option maxRecDepth 100000 in
theorem replies.nil (w : World) (row : Option Nat) (B : Nat) : replies w row B [] (fun _ => 0) (fun _ => 0) := ⟨fun j x h => by simp at h, fun i j _ h => by simp at h, fun j h => by simp at h, fun j h => by simp at h⟩
set_option maxRecDepth 100000 in
theorem replies.below {w w' : World} {row : Option Nat} {B : Nat} {ps : List SlotV} {p q : Nat → Nat} (h : replies w row B ps p q) (hb : Below w.heap.size w w') : replies w' row B ps p q :=
  ⟨fun j x hx => (h.own j x hx).below hb (h.in_ j (List.getElem?_eq_some_iff.1 hx).1).2, h.ord, fun j hj => ⟨(h.in_ j hj).1, Nat.le_trans (h.in_ j hj).2 hb.size⟩, h.row⟩
set_option maxRecDepth 100000 in
theorem replies.grown {w w' : World} {row row' : Option Nat} {B : Nat} {ps : List SlotV} {p q : Nat → Nat} (h : replies w row B ps p q) (hg : w.grownBy w' row) (hr : row' = row ∨ ∃ g, row' = some g ∧ w.heap.size ≤ g) : replies w' row' B ps p q := by
  refine ⟨fun j x hx => ?_, h.ord, fun j hj => ⟨(h.in_ j hj).1, Nat.le_trans (h.in_ j hj).2 hg.size⟩, fun j hj g hg' => ?_⟩
  · have hj := (List.getElem?_eq_some_iff.1 hx).1
    refine (h.own j x hx).apart hg (h.in_ j hj).2 fun b hb e => ?_
    have h1 := (h.own j x hx).blk b hb
    have h2 := h.row j hj b e
    omega
  · rcases hr with hr | ⟨g', hr, hg2⟩
    · exact h.row j hj g (by rw [← hr]; exact hg')
    · rw [hr] at hg'
      cases hg'
      have := (h.in_ j hj).2
      exact .inr (by omega)
set_option maxRecDepth 100000 in
theorem replies.snoc {w : World} {row : Option Nat} {B P Q : Nat} {ps : List SlotV} {p q : Nat → Nat} {x : SlotV} (h : replies w row B ps p q) (hx : nums .u8 P Q w (sv x) x.1.2.2) (h1 : ∀ j, j < ps.length → q j ≤ P) (h2 : B ≤ P) (h3 : Q ≤ w.heap.size) (h4 : ∀ g, row = some g → g < P ∨ Q ≤ g) :
    replies w row B (ps ++ [x]) (fun j => if j = ps.length then P else p j) (fun j => if j = ps.length then Q else q j) := by
  have hlen : (ps ++ [x]).length = ps.length + 1 := by simp
  refine ⟨fun j y hy => ?_, fun i j hij hj => ?_, fun j hj => ?_, fun j hj g hg => ?_⟩
  · by_cases e : j = ps.length
    · subst e
      simp only [if_true]
      have : y = x := by simpa using hy.symm
      subst this
      exact hx
    · have hj : j < ps.length := by have := (List.getElem?_eq_some_iff.1 hy).1; rw [hlen] at this; omega
      rw [List.getElem?_append_left hj] at hy
      show nums .u8 (if j = ps.length then P else p j) (if j = ps.length then Q else q j) w (sv y) y.1.2.2
      rw [if_neg e, if_neg e]
      exact h.own j y hy
  · rw [hlen] at hj
    show (if i = ps.length then Q else q i) ≤ (if j = ps.length then P else p j)
    rw [if_neg (by omega)]
    by_cases e : j = ps.length
    · rw [if_pos e]; exact h1 i (by omega)
    · rw [if_neg e]; exact h.ord i j hij (by omega)
  · rw [hlen] at hj
    show B ≤ (if j = ps.length then P else p j) ∧ (if j = ps.length then Q else q j) ≤ w.heap.size
    by_cases e : j = ps.length
    · rw [if_pos e, if_pos e]; exact ⟨h2, h3⟩
    · rw [if_neg e, if_neg e]; exact h.in_ j (by omega)
  · rw [hlen] at hj
    show g < (if j = ps.length then P else p j) ∨ (if j = ps.length then Q else q j) ≤ g
    by_cases e : j = ps.length
    · rw [if_pos e, if_pos e]; exact h4 g hg
    · rw [if_neg e, if_neg e]; exact h.row j (by omega) g hg
set_option maxRecDepth 100000 in
/-- such a row is slots of one's own -/
theorem replies.slots {w : World} {T : TypeId} {B : Nat} {v : Value} {ps : List SlotV} {p q : Nat → Nat} (ho : owE T 3 sCells B w v ps) (h : replies w v.ownBlock B ps p q) : SlotsR.mine B w.heap.size w [v] (ps.map (·.1)) := by
  have hl : (ps.map (·.1)).length = ps.length := List.length_map ..
  rcases ho.filled (fun _ => rfl) ((⟨#[]⟩, ⟨#[]⟩, []), (none, 0)) with ⟨rfl, A, c, rfl⟩ | ⟨b, c, rfl, hc, h1, h2, hf⟩
  · exact ⟨[], ⟨A, c, rfl, Nat.zero_le _, .inl ⟨rfl, rfl⟩⟩, List.nodup_nil, by simp⟩
  · cases hps : ps with
    | nil => exact ⟨[], ⟨_, c, rfl, Nat.zero_le _, .inl ⟨rfl, rfl⟩⟩, List.nodup_nil, by simp⟩
    | cons y ys =>
      rw [← hps]
      have hne : 0 < ps.length := by rw [hps]; simp
      have hob : (Value.slice (some ⟨b, 0, none⟩) ps.length c).ownBlock = some b := rfl
      refine rows_mine2 (R := SlotR) (p := p) (q := q) hl.symm hc h1 h2 h.ord (fun j hj => h.row j hj b hob) (fun j hj => h.in_ j hj) hf fun j x hx => ?_
      rw [List.getElem?_map] at hx
      obtain ⟨z, hz, rfl⟩ := Option.map_eq_some_iff.1 hx
      have hg : ps.getD j ((⟨#[]⟩, ⟨#[]⟩, []), (none, 0)) = z := by rw [List.getD_eq_getElem?_getD, hz]; rfl
      rw [hg]
      exact slot_mine_of (h.own j z hz)
set_option maxRecDepth 100000 in
theorem sCells_one (x : SlotV) : ∀ u ∈ sCells x, u.oneCell' = true := by
  intro u hu
  simp only [sCells, List.mem_cons, List.not_mem_nil, or_false] at hu
  rcases hu with rfl | rfl | rfl <;> rfl
/-- slots of one's own, in a row that may be appended to -/
def slotsOwn (l : List SlotD) (w : World) (e : Ending) (w' : World) : Prop := ∃ (A : Option Addr) (c : Nat) (ps : List SlotV) (p q : Nat → Nat), e = .returned (.slice A ps.length c) ∧ ps.map (·.1) = l ∧ owE 176 3 sCells w.heap.size w' (.slice A ps.length c) ps ∧ replies w' (Value.slice A ps.length c).ownBlock w.heap.size ps p q ∧ Below w.heap.size w w'
def slotsOne (l : List SlotD) (w : World) (e : Ending) (w' : World) : Prop := ∃ u, e = .returned u ∧ SlotsR.mine w.heap.size w'.heap.size w' [u] l ∧ Below w.heap.size w w'
set_option maxRecDepth 100000 in
set_option maxHeartbeats 3200000 in
theorem specCopySlotsO_any (hi : Nat) (v : Value) (l : List SlotD) (w : World) (hn : l.length ≤ 2000000) (hs : ∀ x ∈ l, x.2.2.length ≤ 1048576) (h : SlotsR.rd hi w [v] l) (hh : hi ≤ w.heap.size) :
    Calls Tryz.prog 160 #[v] w (slotsOwn l w) := by
  obtain ⟨A, c, rfl, hc, h⟩ := slots_rd h
  have HR := Lib.hid h
  have HS := Lib.hid hs
  clear h hs
  go_enter Tryz.func160, Tryz.ntmps160
  go_upto_region 2 with fail
  obtain ⟨W2, hW2⟩ : ∃ W2, W2 = w.alloc (.cells #[] 176) := ⟨_, rfl⟩
  have HO2 : Hid (owE 176 3 sCells w.heap.size W2 (.slice (some ⟨w.heap.size, 0, none⟩) 0 0) []) := Lib.hid (by rw [hW2]; exact owE_empty _ _ _ _ _ (Nat.le_refl _))
  have HB2 : Hid (Below w.heap.size w W2) := Lib.hid (by rw [hW2]; exact (Below.refl _ _).alloc (Nat.le_refl _) _)
  have z2 : w.heap.size < W2.heap.size := by rw [hW2]; simp
  rw [← hW2]
  clear hW2
  go_wp2
  go_loopw [3, 9] (fun ov iv wr => ∃ (i : Nat) (A' : Option Addr) (c' : Nat) (ps : List SlotV) (p q : Nat → Nat), i ≤ l.length ∧ iv = .int .i64 i ∧ ov = .slice A' ps.length c' ∧ ps.length ≤ i ∧ Hid (ps.map (·.1) = l.take i) ∧ Hid (owE 176 3 sCells w.heap.size wr (.slice A' ps.length c') ps) ∧ Hid (replies wr (Value.slice A' ps.length c').ownBlock w.heap.size ps p q) ∧ Hid (Below w.heap.size w wr) ∧ w.heap.size < wr.heap.size) (fun _ iv _ => l.length - (intOf iv).toNat)
  case atStart => exact ⟨0, _, _, [], _, _, Nat.zero_le _, rfl, rfl, Nat.zero_le _, Lib.hid rfl, HO2, Lib.hid (replies.nil _ _ _), HB2, z2⟩
  case round =>
    obtain ⟨i, A', c', ps, p, q, hi', rfl, rfl, hsl, HI, HO, HRP, HB, hz⟩ := hrel
    by_cases hin : i < l.length
    · obtain ⟨x, hx⟩ : ∃ x, l[i]? = some x := ⟨_, List.getElem?_eq_getElem hin⟩
      obtain ⟨b, off, A1, c1, rfl, hbl, d0, d1, d2, hrd⟩ := HR.out i x hx
      have hxs := HS.out x (List.mem_of_getElem? hx)
      have d0 := (HB.out.cell (p := ⟨b, off + i * 3, none⟩) (show b < w.heap.size by omega)).trans d0
      have d1 := (HB.out.cell (p := ⟨b, off + i * 3 + 1, none⟩) (show b < w.heap.size by omega)).trans d1
      have d2 := (HB.out.cell (p := ⟨b, off + i * 3 + 2, none⟩) (show b < w.heap.size by omega)).trans d2
      have HRD := Lib.hid (hrd.below HB.out hh)
      clear hrd
      have g1 : (i : Int) < (l.length : Int) := by omega
      have g2 : 0 ≤ (i : Int) := by omega
      have HIN : Hid (l.take (i + 1) = l.take i ++ [x]) := Lib.hid (by
        obtain ⟨h1, h2⟩ := List.getElem?_eq_some_iff.1 hx
        rw [List.take_succ_eq_append_getElem h1, h2])
      clear hx
      go_upto_region 5 with fail
      obtain ⟨W3, hW3⟩ : ∃ W3, W3 = wr.alloc (.cells #[.string x.1, .string x.2.1, .slice A1 x.2.2.length c1] 176) := ⟨_, rfl⟩
      have b3 : bk W3 wr.heap.size 176 [.string x.1, .string x.2.1, .slice A1 x.2.2.length c1] := by rw [hW3]; exact bk.new wr _ _
      have hb3 : Below wr.heap.size wr W3 := by rw [hW3]; exact (Below.refl _ _).alloc (Nat.le_refl _) _
      rw [← hW3]
      clear hW3
      have z3 := b3.lt
      have HRD3 := Lib.hid (HRD.out.below hb3 (by omega))
      have HB3 := Lib.hid hb3
      have HX3 := Lib.hid b3
      obtain ⟨q0, q1, q2⟩ := b3.cells3
      clear HRD d0 d1 d2 hb3 b3
      go_wp2_with (at_builtin; refine app_all (W3.alloc (.cells #[] 5)) rfl _ _ 22 rfl W3.heap.size 5 .u8 1 Tryz.underlying22 infoU8 _ [] rfl (ow_made _ _ W3) hi _ x.2.2 (by rfl) (HRD3.out.below ((Below.refl _ _).alloc (Nat.le_refl _) _) (by omega)) (by unfold maxLen; simp; omega) (by simp; omega) (by simp) ?_)
      intro v1 w5 hv1 hg1 hb5
      have hn1 := hv1.nums
      have z5 : W3.heap.size + 1 ≤ w5.heap.size := by have := hg1.size; simpa using this
      obtain ⟨AU, cU, rfl, -⟩ := hn1.form
      have hb35 : Below W3.heap.size W3 w5 := ((Below.refl _ _).alloc (Nat.le_refl _) _).trans hb5
      have hx5 := HX3.out.below hb35 z3
      have HX5 := Lib.hid hx5
      have HU := Lib.hid hn1
      have HB5 : Hid (Below wr.heap.size wr w5) := Lib.hid (HB3.out.trans (hb35.mono (by omega)))
      clear hv1 hg1 hb5 hn1 hb35 q0 q1 q2
      obtain ⟨q0, q1, q2⟩ := hx5.cells3
      have f2 := hx5.frozen 2
      clear hx5
      go_upto_region 6 with fail
      obtain ⟨W6, hW6⟩ : ∃ W6, W6 = w5.setCell ⟨wr.heap.size, 2, none⟩ (.slice AU x.2.2.length cU) := ⟨_, rfl⟩
      have hx6 := HX5.out.set 2 (.slice AU x.2.2.length cU)
      have ht6 := (Turned.refl wr.heap.size (wr.heap.size + 1) w5).set (b := wr.heap.size) 2 (.slice AU x.2.2.length cU) (by omega) (by omega)
      have hb6 := HB5.out.setCell (p := ⟨wr.heap.size, 2, none⟩) (Nat.le_refl _) (.slice AU x.2.2.length cU)
      rw [← hW6] at hx6 ht6 hb6 ⊢
      clear hW6
      have z6 := ht6.size
      have HU6 := Lib.hid (HU.out.turned ht6 (.inr (by omega)) (by omega))
      have HO6 := Lib.hid (HO.out.below hb6 (Nat.le_refl _))
      have HAP : Hid (∀ g, (Value.slice A' ps.length c').ownBlock = some g → w.heap.size ≤ g ∧ g < wr.heap.size) := Lib.hid HO.out.lt
      have HRP6 := Lib.hid ((HRP.out.below hb6).snoc (x := (x, (AU, cU))) HU6.out (fun j hj => by have := (HRP.out.in_ j hj).2; omega) (by omega) z6 (fun g hg => .inl (by have := HAP.out g hg; omega)))
      have HB6 : Hid (Below w.heap.size w W6) := Lib.hid (HB.out.trans (hb6.mono (by omega)))
      clear hb6 ht6 HO HRP HX5 HX3 HU q0 q1 q2 f2
      obtain ⟨q0, q1, q2⟩ := hx6.cells3
      clear hx6
      go_wp2_with (at_builtin; refine app_elem sCells 3 (fun _ => rfl) (by decide) sCells_one 27 176 #[.string ⟨#[]⟩, .string ⟨#[]⟩, .slice none 0 0] 56 Tryz.underlying27 infoSlot rfl _ _ rfl (by rfl) w.heap.size W6 _ ps ((x, (AU, cU)) : SlotV) _ _ (by rfl) (by rfl) (by rfl) (by simp) HO6.out (by unfold maxLen; omega) (by omega) (by first | omega | (simp; omega)) ?_)
      intro A9 c9 w9 hown9 hc9 hg9 hlies9
      have z9 : W6.heap.size + 1 ≤ w9.heap.size := by have := hg9.size; simpa using this
      have HB9 : Hid (Below w.heap.size w w9) := Lib.hid ((HB6.out.alloc (by omega) _).grown hg9 (by simp; omega) (fun g hg' => (HAP.out g hg').1))
      have HRP9 := Lib.hid ((HRP6.out.below ((Below.refl _ _).alloc (Nat.le_refl _) (.cells #[.string x.1, .string x.2.1, .slice AU x.2.2.length cU] 176))).grown hg9 (row' := (Value.slice A9 (ps.length + 1) c9).ownBlock) (hlies9.imp id (fun e => ⟨_, e, by simp⟩)))
      have HO9 := Lib.hid hown9
      clear hown9 hg9 hlies9
      go_wp2
      go_roundw
      case rel => exact ⟨i + 1, A9, c9, ps ++ [(x, (AU, cU))], _, _, by omega, by go_num, by simp, by simp; omega, Lib.hid (by rw [HIN.out, ← HI.out]; simp), Lib.hid (by simpa using HO9.out), Lib.hid (by have h9 := HRP9.out; rw [show (Value.slice A9 (ps ++ [((x, (AU, cU)) : SlotV)]).length c9).ownBlock = (Value.slice A9 (ps.length + 1) c9).ownBlock from by simp]; exact h9), HB9, by omega⟩
      case measure => simp [intOf] <;> omega
    · obtain rfl : i = l.length := by omega
      have HV : Hid (ps.map (·.1) = l) := Lib.hid (by have := HI.out; rwa [List.take_length] at this)
      go_wp2
      refine bodyPost_ret (v := .slice A' ps.length c') (by simp [results, Tryz.results160, go_sem]) rfl ?_
      exact ⟨A', c', ps, p, q, rfl, HV.out, HO.out, HRP.out, HB.out⟩
set_option maxRecDepth 100000 in
theorem specCopySlots_any (hi : Nat) (v : Value) (l : List SlotD) (w : World) (hn : l.length ≤ 2000000) (hs : ∀ x ∈ l, x.2.2.length ≤ 1048576) (h : SlotsR.rd hi w [v] l) (hh : hi ≤ w.heap.size) :
    Calls Tryz.prog 160 #[v] w (slotsOne l w) := by
  refine (specCopySlotsO_any hi v l w hn hs h hh).mono ?_
  rintro e w' ⟨A, c, ps, p, q, rfl, hm, ho, hr, hb⟩
  have := replies.slots ho hr
  rw [hm] at this
  exact ⟨_, rfl, this, hb⟩
end Go.Proofs.YtnmijppppcgobaaGreatDoor
set_option linter.unusedVariables false
namespace Go.Proofs.YtnmijppppcgobaaGreatDoor
open Go.ChangeShapes Go.WideShapes Go.ChangeAt Go.RowKit

set_option maxRecDepth 100000 in
theorem flat_len {α : Type} {k : Nat} {enc : α → List Value} (hk : ∀ x, (enc x).length = k) (l : List α) : (l.flatMap enc).length = l.length * k := by
  induction l with
  | nil => simp
  | cons x l ih => rw [List.flatMap_cons, List.length_append, hk, ih, List.length_cons, Nat.add_mul]; omega
set_option maxRecDepth 100000 in
theorem flat_take {α : Type} {k : Nat} {enc : α → List Value} (hk : ∀ x, (enc x).length = k) (l : List α) : ∀ n : Nat, (l.flatMap enc).take (n * k) = (l.take n).flatMap enc := by
  induction l with
  | nil => intro n; simp
  | cons x l ih =>
    intro n
    cases n with
    | zero => simp
    | succ n =>
      rw [List.flatMap_cons, List.take_succ_cons, List.flatMap_cons, ← ih n, List.take_append, hk, List.take_of_length_le (by rw [hk, Nat.add_mul]; omega), Nat.add_mul, Nat.one_mul, Nat.add_sub_cancel]
set_option maxRecDepth 100000 in
theorem flat_drop {α : Type} {k : Nat} {enc : α → List Value} (hk : ∀ x, (enc x).length = k) (l : List α) : ∀ n : Nat, (l.flatMap enc).drop (n * k) = (l.drop n).flatMap enc := by
  induction l with
  | nil => intro n; simp
  | cons x l ih =>
    intro n
    cases n with
    | zero => simp
    | succ n =>
      rw [List.flatMap_cons, List.drop_succ_cons, ← ih n, List.drop_append, hk, List.drop_of_length_le (by rw [hk, Nat.add_mul]; omega), Nat.add_mul, Nat.one_mul, Nat.add_sub_cancel, List.nil_append]
set_option maxRecDepth 100000 in
theorem take_over {β : Type} (L M : List β) (a n : Nat) (h : a + M.length ≤ n) (hn : n ≤ L.length) : (L.take a ++ M ++ L.drop (a + M.length)).take n = (L.take n).take a ++ M ++ (L.take n).drop (a + M.length) := by
  have hX : (L.take a ++ M).length = a + M.length := by rw [List.length_append, List.length_take]; omega
  rw [List.take_append, List.take_of_length_le (by rw [hX]; exact h), hX, List.take_take, Nat.min_eq_left (by omega), List.drop_take]
set_option maxRecDepth 100000 in
/-- cells laid over such a row -/
theorem owE.over {α : Type} {T : TypeId} {k B g c : Nat} {enc : α → List Value} {w : World} {l : List α} (h : owE T k enc B w (.slice (some ⟨g, 0, none⟩) l.length c) l) (hk : ∀ x, (enc x).length = k) (m : List α) (d : Nat) (hd : d + m.length ≤ l.length) :
    ∃ cur : Array Value, w.heap[g]? = some (.cells cur T (0, 0)) ∧ d * k + (m.flatMap enc).length ≤ cur.size ∧ cur.toList.take (l.length * k) = l.flatMap enc ∧
      owE T k enc B (w.setRow g (cur.toList.take (d * k) ++ m.flatMap enc ++ cur.toList.drop (d * k + (m.flatMap enc).length)).toArray) (.slice (some ⟨g, 0, none⟩) l.length c) (l.take d ++ m ++ l.drop (d + m.length)) := by
  obtain ⟨h1, h2⟩ := h
  rcases h2 with ⟨h', _⟩ | ⟨g', cap, cur, h', hB, hg, hn, hm, hs, ht⟩
  · simp at h'
  simp only [Value.slice.injEq, Option.some.injEq, Addr.mk.injEq, and_true, true_and] at h'
  obtain ⟨rfl, rfl⟩ := h'
  have hml := flat_len hk m
  have hmul : (d + m.length) * k ≤ l.length * k := Nat.mul_le_mul_right k hd
  have hcap : l.length * k ≤ c * k := Nat.mul_le_mul_right k hn
  rw [Nat.add_mul] at hmul
  refine ⟨cur, hg, by omega, ht, ?_, Or.inr ⟨g, c, _, ?_, hB, setRow_heap w g cur _ T _ hg, ?_, hm, ?_, ?_⟩⟩
  · rw [flat_len hk]
  · have e : l.length = (l.take d ++ m ++ l.drop (d + m.length)).length := by
      simp only [List.length_append, List.length_take, List.length_drop]
      omega
    rw [← e]
  · simp only [List.length_append, List.length_take, List.length_drop]
    omega
  · simp only [List.size_toArray, List.length_append, List.length_take, List.length_drop, Array.length_toList]
    omega
  · have e : (l.take d ++ m ++ l.drop (d + m.length)).length = l.length := by
      simp only [List.length_append, List.length_take, List.length_drop]
      omega
    rw [e, take_over _ _ _ _ (by omega) (by simp; omega), ht, flat_take hk, hml, ← Nat.add_mul, flat_drop hk, List.flatMap_append, List.flatMap_append]
set_option maxRecDepth 100000 in
theorem setRow_turned {w : World} {g : Nat} (cs : Array Value) : Turned g (g + 1) w (w.setRow g cs) := ⟨rfl, rfl, rfl, by simp [World.setRow], fun b hb h => setRow_other w g b cs (by omega)⟩
set_option maxRecDepth 100000 in
theorem zero_flat {α : Type} {k : Nat} {enc : α → List Value} (hk : ∀ x, (enc x).length = k) (zs : Array Value) (z : α) (hz : zs.toList = enc z) (m : Nat) : (Builtin.zeroCells zs m).toList = (List.replicate m z).flatMap enc := by
  have hs : zs.size = k := by rw [← Array.length_toList, hz, hk]
  apply List.ext_getElem?
  intro i
  have hl : ((List.replicate m z).flatMap enc).length = m * k := by rw [flat_len hk, List.length_replicate]
  by_cases hi : i < m * k
  · have hk0 : 0 < k := by rcases Nat.eq_zero_or_pos k with h | h; subst h; omega; exact h
    have e : i = i / k * k + i % k := by rw [Nat.mul_comm]; exact (Nat.div_add_mod i k).symm
    have hlt : i % k < k := Nat.mod_lt _ hk0
    have hd : i / k < m := by rw [Nat.div_lt_iff_lt_mul hk0]; exact hi
    have h1 : (enc z)[i % k]? = some zs[i % k]! := by
      rw [← hz, Array.getElem?_toList, getElem!_pos zs (i % k) (by omega)]
      exact Array.getElem?_eq_getElem _
    have h2 := flat_at hk (List.replicate m z) (i / k) z (by rw [List.getElem?_replicate, if_pos hd]) (i % k) _ h1
    rw [← e] at h2
    rw [h2]
    simp only [Builtin.zeroCells, Array.toList_map, Array.toList_range, List.getElem?_map, hs]
    rw [List.getElem?_range hi]
    rfl
  · rw [List.getElem?_eq_none (by simp [Builtin.zeroCells, hs]; omega), List.getElem?_eq_none (by rw [hl]; omega)]
section
variable {P : Program} {ops : Array Oper} {rest : List Oper} {o : Oper} {a : Act} {Q : Exit → Act → World → Prop}
set_option maxRecDepth 100000 in
/-- copy(s[m:], s) -/
theorem wpList_copy_over {α : Type} (enc : α → List Value) (k : Nat) (hk : ∀ x, (enc x).length = k) (hone : ∀ x, ∀ u ∈ enc x, u.oneCell' = true) (hgd : o.guard = none) (d s : Operand) (dT sT : TypeId)
    (ho : o.op = .call { callee := .builtin .copy, args := #[d, s], argTypes := #[dT, sT] }) (e : TypeId) (hu : P.underlying dT = some (.slice e)) (hsz : (P.info? e).map (·.size) = some k)
    (B : Nat) (W : World) (g m c c' : Nat) (dp : Option Addr) (l : List α) (hown : owE e k enc B W (.slice (some ⟨g, 0, none⟩) l.length c) l) (hm : m ≤ l.length)
    (hd : a.eval d = .slice dp (l.length - m) c') (hdp : m < l.length → dp = some ⟨g, m * k, none⟩) (hs : a.eval s = .slice (some ⟨g, 0, none⟩) l.length c)
    (h : ∀ w', owE e k enc B w' (.slice (some ⟨g, 0, none⟩) l.length c) (l.take m ++ l.take (l.length - m)) → Turned g (g + 1) W w' → wpList P ops Q rest (a.put o.dst (goInt ((l.length - m : Nat) : Int))) w') : wpList P ops Q (o :: rest) a W := by
  obtain ⟨i, hi, hsi⟩ := Option.map_eq_some_iff.1 hsz
  have hmin : Nat.min l.length (l.length - m) = l.length - m := Nat.min_eq_right (by omega)
  have hcells : (Builtin.firstCells k (l.length - m) (.slice (some ⟨g, 0, none⟩) l.length c)).run P W = .ok ((l.take (l.length - m)).flatMap enc).toArray W := by
    refine run_firstCells_some (P := P) W k (l.length - m) ⟨g, 0, none⟩ l.length c ((l.take (l.length - m)).flatMap enc) (by rw [flat_len hk, List.length_take]; congr 1; omega) ?_
    intro j v hj
    have hlt := (List.getElem?_eq_some_iff.1 hj).1
    rw [flat_len hk, List.length_take, Nat.min_eq_left (by omega)] at hlt
    have hle : (l.length - m) * k ≤ l.length * k := Nat.mul_le_mul_right k (by omega)
    have hh : W.ownsRow B e k (.slice (some ⟨g, 0, none⟩) l.length c) l.length (l.flatMap enc) := hown
    have e1 : (⟨g, 0, none⟩ : Addr).add j = ⟨g, j, none⟩ := by
      unfold Addr.add
      split
      · next h0 => rw [h0]
      · simp
    rw [e1, hh.cellAt j (by omega)]
    rw [← flat_take hk] at hj
    rw [List.getElem?_take, if_pos hlt] at hj
    exact hj
  by_cases hz : m = l.length
  · have h0 : l.length - m = 0 := by omega
    refine wpList_plain hgd fun K hK => ?_
    have e0 : l.take m ++ l.take (l.length - m) = l := by rw [h0, hz]; simp
    have hw := h W (by rw [e0]; exact hown) (Turned.refl _ _ _)
    rw [h0] at hcells hw hd hmin
    have hrun : (Builtin.copy_ #[dT, sT] o.type #[.slice dp 0 c', .slice (some ⟨g, 0, none⟩) l.length c]).run P W = .ok (goInt 0) W := by
      cases dp <;> simp [Builtin.copy_, run_underlying hu, Builtin.lenOf, sizeOf, typeInfo, hi, hsi, hcells, storeCells]
    unfold Oper.wp
    simp [execOp, ho, resolve, invoke, builtin, hd, hs, hrun]
    exact hK _ _ hw
  · obtain rfl := hdp (by omega)
    obtain ⟨cur, hg, hfit, -, hnew⟩ := hown.over hk (l.take (l.length - m)) m (by rw [List.length_take]; omega)
    have hdrop : l.drop (m + (l.take (l.length - m)).length) = [] := List.drop_of_length_le (by rw [List.length_take]; omega)
    rw [hdrop, List.append_nil] at hnew
    have hst := run_storeCells_at P g (m * k) e ((l.take (l.length - m)).flatMap enc) 0 cur W hg (by omega) (fun v hv => by obtain ⟨x, -, hx⟩ := List.mem_flatMap.1 hv; exact hone x v hx)
    rw [Nat.add_zero] at hst
    generalize (cur.toList.take (m * k) ++ (l.take (l.length - m)).flatMap enc ++ cur.toList.drop (m * k + ((l.take (l.length - m)).flatMap enc).length)).toArray = X at hst hnew
    generalize (l.take (l.length - m)).flatMap enc = us at hst hcells
    refine wpList_plain hgd fun K hK => ?_
    have hrun : (Builtin.copy_ #[dT, sT] o.type #[.slice (some ⟨g, m * k, none⟩) (l.length - m) c', .slice (some ⟨g, 0, none⟩) l.length c]).run P W = .ok (goInt ((l.length - m : Nat) : Int)) (W.setRow g X) := by
      simp [Builtin.copy_, run_underlying hu, Builtin.lenOf, sizeOf, typeInfo, hi, hsi, hmin, hcells, hst]
    unfold Oper.wp
    simp [execOp, ho, resolve, invoke, builtin, hd, hs, hrun]
    exact hK _ _ (h _ hnew (setRow_turned _))
set_option maxRecDepth 100000 in
/-- clear(s[:m]) -/
theorem wpList_clear_over {α : Type} (enc : α → List Value) (k : Nat) (hk : ∀ x, (enc x).length = k) (hone : ∀ x, ∀ u ∈ enc x, u.oneCell' = true) (hgd : o.guard = none) (x : Operand) (t : TypeId)
    (ho : o.op = .call { callee := .builtin .clear, args := #[x], argTypes := #[t] }) (e : TypeId) (hu : P.underlying t = some (.slice e)) (zs : Array Value) (hinfo : (P.info? e).map (fun i => (i.zero.map (·.cells), i.size)) = some (some zs, k)) (z : α) (hz : zs.toList = enc z)
    (B : Nat) (W : World) (g m c c' n : Nat) (l : List α) (hn : l.length = n) (hown : owE e k enc B W (.slice (some ⟨g, 0, none⟩) n c) l) (hm : m ≤ n) (hm0 : 0 < m)
    (hx : a.eval x = .slice (some ⟨g, 0, none⟩) m c')
    (h : ∀ w', owE e k enc B w' (.slice (some ⟨g, 0, none⟩) n c) (List.replicate m z ++ l.drop m) → Turned g (g + 1) W w' → wpList P ops Q rest (a.put o.dst (.tuple #[])) w') : wpList P ops Q (o :: rest) a W := by
  subst hn
  obtain ⟨i, hi, hxx⟩ := Option.map_eq_some_iff.1 hinfo
  simp only [Prod.mk.injEq] at hxx
  obtain ⟨hz1, hsize⟩ := hxx
  obtain ⟨zz, hzz, hzc⟩ := Option.map_eq_some_iff.1 hz1
  obtain ⟨cur, hg, hfit, -, hnew⟩ := hown.over hk (List.replicate m z) 0 (by rw [List.length_replicate]; omega)
  rw [Nat.zero_add, List.length_replicate, List.take_zero, List.nil_append] at hnew
  have hst := run_storeCells_at P g 0 e ((List.replicate m z).flatMap enc) 0 cur W hg (by omega) (fun v hv => by obtain ⟨x, -, hx⟩ := List.mem_flatMap.1 hv; exact hone x v hx)
  rw [Nat.zero_mul] at hnew
  rw [Nat.add_zero] at hst
  obtain ⟨p, rfl⟩ : ∃ p, m = p + 1 := ⟨m - 1, by omega⟩
  refine wpList_plain hgd fun K hK => ?_
  have hzf := zero_flat hk zs z hz (p + 1)
  generalize (cur.toList.take 0 ++ (List.replicate (p + 1) z).flatMap enc ++ cur.toList.drop (0 + ((List.replicate (p + 1) z).flatMap enc).length)).toArray = X at hst hnew
  generalize (List.replicate (p + 1) z).flatMap enc = us at hst hzf
  have hrun : (Builtin.clear_ #[t] o.type #[.slice (some ⟨g, 0, none⟩) (p + 1) c']).run P W = .ok (.tuple #[]) (W.setRow g X) := by
    simp [Builtin.clear_, run_underlying hu, zeroValue, typeInfo, hi, hzz, hzc, hzf, hst]
  unfold Oper.wp
  simp [execOp, ho, resolve, invoke, builtin, hx, hrun]
  exact hK _ _ (h _ hnew (setRow_turned _))
end
end Go.Proofs.YtnmijppppcgobaaGreatDoor
set_option linter.unusedVariables false
namespace Go.Proofs.YtnmijppppcgobaaGreatDoor
open Go.ChangeShapes Go.WideShapes Go.ChangeAt Go.RowKit

set_option maxRecDepth 100000 in
/-- append(s, src...) onto a row of structs of the call's own -/
theorem app_rows {P : Program} {ops : Array Oper} {rest : List Oper} {o : Oper} {a : Act} {Q : Exit → Act → World → Prop} {α : Type} (enc : α → List Value) (k : Nat) (hk : ∀ x, (enc x).length = k) (hk0 : 0 < k) (hone : ∀ x, ∀ u ∈ enc x, u.oneCell' = true)
    (t e : TypeId) (zs : Array Value) (bytes : Nat) (ht : P.underlying t = some (.slice e)) (hinfo : (P.info? e).map (fun i => (i.zero.map (·.cells), i.size, i.bytes)) = some (some zs, k, bytes)) (hzs : zs.size = k)
    (s x : Operand) (hgd : o.guard = none) (ho : o.op = .call { callee := .builtin .append, args := #[s, x], argTypes := #[t, t] })
    (base : Nat) (W : World) (v : Value) (l m : List α) (A0 : Option Addr) (c0 : Nat) (hs : a.eval s = v) (hx : a.eval x = .slice A0 m.length c0) (hown : owE e k enc base W v l)
    (hsrc : ∀ j y, m[j]? = some y → ∃ b off, A0 = some ⟨b, off, none⟩ ∧ atL W b (off + j * k) (enc y)) (h63 : l.length + m.length ≤ maxLen) (hbytes : (l.length + m.length) * bytes ≤ 140737488355328) (hbase : base ≤ W.heap.size)
    (h : ∀ A c w', owE e k enc base w' (.slice A (l.length + m.length) c) (l ++ m) → W.grownBy w' v.ownBlock → Below base W w' → wpList P ops Q rest (a.put o.dst (.slice A (l.length + m.length) c)) w') : wpList P ops Q (o :: rest) a W := by
  obtain ⟨i, hi, hxx⟩ := Option.map_eq_some_iff.1 hinfo
  simp only [Prod.mk.injEq] at hxx
  obtain ⟨hz, hsize, hby⟩ := hxx
  obtain ⟨z, hzz, hzc⟩ := Option.map_eq_some_iff.1 hz
  have key : ∃ v' w', (Builtin.append_ #[t, t] o.type #[v, .slice A0 m.length c0]).run P W = .ok v' w' ∧ owE e k enc base w' v' (l ++ m) ∧ W.grownBy w' v.ownBlock := by
    cases A0 with
    | none =>
      have hm : m = [] := by
        cases m with
        | nil => rfl
        | cons y m => obtain ⟨b, off, e', -⟩ := hsrc 0 y rfl; cases e'
      subst hm
      exact ⟨v, W, run_app_void W base t o.type e i ht hi v l.length _ k hown c0, by simpa using hown, World.grownBy.refl W _⟩
    | some ad =>
      have hcells : ∀ j u, (m.flatMap enc)[j]? = some u → W.cell? (ad.add j) = some u := by
        intro j u hu
        have hlt := (List.getElem?_eq_some_iff.1 hu).1
        have hlen := flat_len hk m
        rw [hlen] at hlt
        have hq : j / k < m.length := by rw [Nat.div_lt_iff_lt_mul hk0]; exact hlt
        have hr : j % k < k := Nat.mod_lt _ hk0
        have hj : j = j / k * k + j % k := by rw [Nat.mul_comm]; exact (Nat.div_add_mod j k).symm
        obtain ⟨b, off, e', hat⟩ := hsrc (j / k) _ (List.getElem?_eq_getElem hq)
        obtain rfl := Option.some.inj e'
        obtain ⟨u', hu'⟩ : ∃ u', (enc m[j / k])[j % k]? = some u' := ⟨_, List.getElem?_eq_getElem (show j % k < (enc m[j / k]).length by have := hk m[j / k]; omega)⟩
        have h2 := flat_at hk m (j / k) _ (List.getElem?_eq_getElem hq) (j % k) u' hu'
        rw [← hj, hu] at h2
        obtain rfl := Option.some.inj h2
        have h3 := hat (j % k) u hu'
        rw [add_off, show off + j = off + j / k * k + j % k by omega]
        exact h3
      obtain ⟨v', w1, hr, hown', hgrow, -, -⟩ := run_append_own_at (P := P) W base t o.type e i z k bytes ht hi hzz hsize hby (by rw [hzc, hzs]) hk0 v l.length (l.flatMap enc) hown ad m.length c0 (m.flatMap enc) (flat_len hk m) hcells (fun u hu => by obtain ⟨y, -, hy⟩ := List.mem_flatMap.1 hu; exact hone y u hy) h63 hbytes hbase
      refine ⟨v', w1, hr, ?_, hgrow⟩
      unfold owE
      rw [List.length_append, List.flatMap_append]
      exact hown'
  obtain ⟨v', w1, hr, ho', hgrow⟩ := key
  obtain ⟨A, c, rfl, hc'⟩ := ho'.form
  rw [List.length_append] at ho' hr
  refine wpList_plain hgd fun Kn hKn => ?_
  unfold Oper.wp execOp
  simp only [ho, resolve, invoke, builtin, Sem.run_bind, Sem.run_pure, Result.andThen_ok, List.map_toArray, List.map_cons, List.map_nil, hs, hx, hr]
  exact hKn _ _ (h A c w1 ho' hgrow ((Below.refl base W).grown hgrow hbase fun k hk => (hown.lt k hk).1))
end Go.Proofs.YtnmijppppcgobaaGreatDoor
