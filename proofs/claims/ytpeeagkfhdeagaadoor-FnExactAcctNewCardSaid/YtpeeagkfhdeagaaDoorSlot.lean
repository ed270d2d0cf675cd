/- Slots: their layout, and what the law package's helpers do with them; no conditions. -/
import Derived.Test.YtpeeagkfhdeagaaDoorField
import Derived.Test.YtpeeagkfhdeagaaDoorElems
import Derived.Test.YtpeeagkfhdeagaaDoorNumsB
import Derived.Test.YtpeeagkfhdeagaaDoorNumT
import Derived.Test.YtpeeagkfhdeagaaDoorMem
set_option linter.unusedVariables false
namespace Go.Proofs.YtpeeagkfhdeagaaDoor
open Go.ChangeShapes Go.WideShapes Go.ChangeAt Go.RowKit

/-- trace, type, reply -/
abbrev SlotD := ByteArray × ByteArray × List Int
def BytesR : Rep (List Int) := (Rep.int .u8).slice
def SlotR : Rep SlotD := Rep.pair Rep.str (Rep.pair Rep.str BytesR)
def SlotsR : Rep (List SlotD) := SlotR.slice
set_option maxRecDepth 100000 in
/-- numbers of one's own as such a row -/
theorem nums_rep {K : IntKind} {lo hi : Nat} {w : World} {v : Value} {l : List Int} (h : nums K lo hi w v l) : (Rep.int K).slice.mine lo hi w [v] l := by
  obtain ⟨A, c, rfl, hc, hj⟩ := h
  cases l with
  | nil => exact ⟨[], ⟨A, c, rfl, hc, .inl ⟨rfl, rfl⟩⟩, List.nodup_nil, by simp⟩
  | cons y l =>
    obtain ⟨b, off, rfl, h1, h2, -, -⟩ := hj 0 (by simp)
    have hfl : List.flatten ((y :: l).map fun _ => ([] : List Nat)) = [] := by simp
    refine ⟨b :: List.flatten ((y :: l).map fun _ => []), ⟨_, c, rfl, hc, .inr ⟨b, off, _, rfl, rfl, by simp, fun j x G hx hG => ?_⟩⟩, by rw [hfl]; simp, ?_⟩
    · have hjl := (List.getElem?_eq_some_iff.1 hx).1
      have hG' : G = [] := by rw [List.getElem?_map, hx] at hG; simpa using hG.symm
      subst hG'
      obtain ⟨b', off', e, -, -, h3, h4⟩ := hj j hjl
      simp only [Option.some.injEq, Addr.mk.injEq, and_true] at e
      obtain ⟨rfl, rfl⟩ := e
      rw [List.getD_eq_getElem?_getD, hx] at h3
      have hk : off + j * (Rep.int K).k = off + j := by show off + j * 1 = _; rw [Nat.mul_one]
      refine ⟨[.int K x], ⟨rfl, rfl⟩, atL_one.2 (by rw [hk]; exact h3), fun t ht => ?_⟩
      have ht0 : t = 0 := by have : t < 1 := ht; omega
      subst ht0
      rw [hk]; exact h4
    · rw [hfl]; intro b' hb'; rw [List.mem_singleton.1 hb']; exact ⟨h1, h2⟩
set_option maxRecDepth 100000 in
theorem rep_nums {K : IntKind} {lo hi : Nat} {w : World} {cs : List Value} {l : List Int} (h : (Rep.int K).slice.mine lo hi w cs l) : ∃ v, cs = [v] ∧ nums K lo hi w v l := by
  obtain ⟨F, ⟨A, c, rfl, hc, h⟩, -, hF⟩ := h
  refine ⟨_, rfl, ⟨A, c, rfl, hc, fun j hl => ?_⟩⟩
  rcases h with ⟨rfl, _⟩ | ⟨b, off, Fs, rfl, rfl, hFl, h⟩
  · simp at hl
  · obtain ⟨xs, hx, h2, h3⟩ := h j _ _ (List.getElem?_eq_getElem hl) (List.getElem?_eq_getElem (by omega : j < Fs.length))
    have hx' : xs = [.int K l[j]] := hx.1
    subst hx'
    have hk : off + j * (Rep.int K).k = off + j := by show off + j * 1 = _; rw [Nat.mul_one]
    have hb := hF b (List.mem_cons_self ..)
    have h4 := h3 0 (by show 0 < 1; decide)
    have h5 := atL_one.1 h2
    rw [hk] at h4 h5
    refine ⟨b, off, rfl, hb.1, hb.2, ?_, h4⟩
    rw [h5, List.getD_eq_getElem?_getD, List.getElem?_eq_getElem hl]
    rfl
set_option maxRecDepth 100000 in
theorem slot_rd {hi : Nat} {w : World} {cs : List Value} {x : SlotD} (h : SlotR.rd hi w cs x) : ∃ u, cs = [.string x.1, .string x.2.1, u] ∧ rd .u8 hi w u x.2.2 := by
  obtain ⟨a, b, rfl, h1, c, d, rfl, h2, h3⟩ := h
  have h1' : a = [.string x.1] := h1
  have h2' : c = [.string x.2.1] := h2
  subst h1' h2'
  obtain ⟨u, rfl, hu⟩ := Rep.to_rd h3
  exact ⟨u, rfl, hu⟩
set_option maxRecDepth 100000 in
theorem slot_rd_of {hi : Nat} {w : World} {u : Value} {x : SlotD} (h : rd .u8 hi w u x.2.2) : SlotR.rd hi w [.string x.1, .string x.2.1, u] x :=
  ⟨[_], [_, u], rfl, rfl, [_], [u], rfl, rfl, Rep.of_rd h⟩
set_option maxRecDepth 100000 in
theorem slot_mine_of {lo hi : Nat} {w : World} {u : Value} {x : SlotD} (h : nums .u8 lo hi w u x.2.2) : SlotR.mine lo hi w [.string x.1, .string x.2.1, u] x := by
  obtain ⟨F, h1, h2, h3⟩ := nums_rep h
  exact ⟨F, ⟨[_], [_, u], [], F, rfl, rfl, ⟨rfl, rfl⟩, [_], [u], [], F, rfl, rfl, ⟨rfl, rfl⟩, h1⟩, h2, h3⟩
set_option maxRecDepth 100000 in
theorem slot_mine {lo hi : Nat} {w : World} {cs : List Value} {x : SlotD} (h : SlotR.mine lo hi w cs x) : ∃ u, cs = [.string x.1, .string x.2.1, u] ∧ nums .u8 lo hi w u x.2.2 := by
  obtain ⟨F, ⟨a, b, G, H, rfl, rfl, ⟨h1, rfl⟩, c, d, I, J, rfl, rfl, ⟨h2, rfl⟩, h3⟩, hn, hb⟩ := h
  have h1' : a = [.string x.1] := h1
  have h2' : c = [.string x.2.1] := h2
  subst h1' h2'
  simp only [List.nil_append] at hn hb
  obtain ⟨u, rfl, hu⟩ := rep_nums ⟨J, h3, hn, hb⟩
  exact ⟨u, rfl, hu⟩
set_option maxRecDepth 100000 in
/-- a slice of slots: its value and its cells -/
theorem slots_rd {hi : Nat} {w : World} {v : Value} {l : List SlotD} (h : SlotsR.rd hi w [v] l) :
    ∃ A c, v = .slice A l.length c ∧ l.length ≤ c ∧ ∀ j x, l[j]? = some x → ∃ b off A' c', A = some ⟨b, off, none⟩ ∧ b < hi ∧ w.cell? ⟨b, off + j * 3, none⟩ = some (.string x.1) ∧ w.cell? ⟨b, off + j * 3 + 1, none⟩ = some (.string x.2.1) ∧ w.cell? ⟨b, off + j * 3 + 2, none⟩ = some (.slice A' x.2.2.length c') ∧ rd .u8 hi w (.slice A' x.2.2.length c') x.2.2 := by
  obtain ⟨A, c, hv, hc, hj⟩ := h
  simp only [List.cons.injEq, and_true] at hv
  refine ⟨A, c, hv, hc, fun j x hx => ?_⟩
  obtain ⟨b, off, xs, hA, hb, hr, ha⟩ := hj j x hx
  obtain ⟨u, rfl, hu⟩ := slot_rd hr
  obtain ⟨A', c', rfl, -⟩ := hu.form
  exact ⟨b, off, A', c', hA, hb, ha 0 _ rfl, ha 1 _ rfl, ha 2 _ rfl, hu⟩
def slotOne (x : SlotD) (w : World) (e : Ending) (w' : World) : Prop := ∃ u, e = .returned (.agg #[.string x.1, .string x.2.1, u]) ∧ nums .u8 w.heap.size w'.heap.size w' u x.2.2 ∧ Below w.heap.size w w'
set_option maxRecDepth 100000 in
set_option maxHeartbeats 1600000 in
theorem toSlot_any (hi : Nat) (v : Value) (x : SlotD) (w : World) (hn : x.2.2.length ≤ 1048576) (h : rd .u8 hi w v x.2.2) (hhi : hi ≤ w.heap.size) :
    Calls Tryd.prog 62 #[.agg #[.string x.1, .string x.2.1, v]] w (slotOne x w) := by
  obtain ⟨A, c, rfl, -⟩ := h.form
  have H := Lib.hid (fun W (hW : Below w.heap.size w W) => toBytes_any hi _ x.2.2 W hn (h.below hW hhi) (Nat.le_trans hhi hW.size))
  clear h
  go_enter Tryd.func62, Tryd.ntmps62
  go_wp2_with fail
  obtain ⟨W, hW⟩ : ∃ W, W = ((w.alloc (.cells #[.string x.1, .string x.2.1, .slice A x.2.2.length c] 85)).alloc (.cells #[.string ⟨#[]⟩, .string ⟨#[]⟩, .slice none 0 0] 78)).alloc (.cells #[.string x.1, .string x.2.1, .slice none 0 0] 78) := ⟨_, rfl⟩
  have b1 : bk W (w.heap.size + 1) 78 [.string ⟨#[]⟩, .string ⟨#[]⟩, .slice none 0 0] := by rw [hW]; exact (by simpa using bk.new (w.alloc _) _ _ : bk _ (w.heap.size + 1) _ _).alloc _
  have b2 : bk W (w.heap.size + 1 + 1) 78 [.string x.1, .string x.2.1, .slice none 0 0] := by rw [hW]; simpa using bk.new ((w.alloc _).alloc _) _ _
  have HB0 : Hid (Below w.heap.size w W) := Lib.hid (by rw [hW]; exact (((Below.refl _ _).alloc (Nat.le_refl _) _).alloc (by simp) _).alloc (by simp; omega) _)
  have hz0 : W.heap.size = w.heap.size + 3 := by rw [hW]; simp
  rw [← hW]
  clear hW
  refine (H.out W HB0.out).mono ?_
  rintro e w1 ⟨u, rfl, hu, hb1⟩
  obtain ⟨AU, cU, rfl, -⟩ := hu.form
  have z1 := hb1.size
  have HU := Lib.hid hu
  have HB1 : Hid (Below w.heap.size w w1) := Lib.hid (HB0.out.trans (hb1.mono (by omega)))
  replace b1 := b1.below hb1 (by omega)
  replace b2 := b2.below hb1 (by omega)
  clear hb1 HB0 hu
  have q0 := b2.cell 0
  have q1 := b2.cell 1
  have q2 := b2.cell 2
  have f2 := b2.frozen 2
  have r0 := b1.cell 0
  have r1 := b1.cell 1
  have r2 := b1.cell 2
  have g0 := b1.frozen 0
  have g1 := b1.frozen 1
  have g2 := b1.frozen 2
  simp only [List.getElem?_cons_zero, List.getElem?_cons_succ] at q0 q1 q2 r0 r1 r2
  clear b1 b2
  go_wp2
  refine bodyPost_ret (v := .agg #[.string x.1, .string x.2.1, .slice AU x.2.2.length cU]) (by simp [results, Tryd.results62, go_sem, r0, r1, r2]) rfl ?_
  have ht := ((((Turned.refl w.heap.size (w.heap.size + 3) w1).set (b := w.heap.size + 1 + 1) 2 (.slice AU x.2.2.length cU) (by omega) (by omega)).set (b := w.heap.size + 1) 0 (.string x.1) (by omega) (by omega)).set (b := w.heap.size + 1) 1 (.string x.2.1) (by omega) (by omega)).set (b := w.heap.size + 1) 2 (.slice AU x.2.2.length cU) (by omega) (by omega)
  have hsz := ht.size
  exact ⟨_, rfl, (HU.out.turned ht (.inr (by omega)) (by omega)).mono (by omega) (by omega), HB1.out.trans (ht.below (Nat.le_refl _) (by omega))⟩
set_option maxRecDepth 100000 in
set_option maxHeartbeats 1600000 in
theorem eqSlot_any (hi1 hi2 : Nat) (va vb : Value) (x : SlotD) (w : World) (hn : x.2.2.length ≤ 4611686018427387904) (h1 : rd .u8 hi1 w va x.2.2) (h2 : rd .u8 hi2 w vb x.2.2) (hh1 : hi1 ≤ w.heap.size) (hh2 : hi2 ≤ w.heap.size) :
    Calls Tryd.prog 45 #[.agg #[.string x.1, .string x.2.1, va], .agg #[.string x.1, .string x.2.1, vb]] w fun e w' => e = .returned (.bool true) ∧ Below w.heap.size w w' := by
  obtain ⟨A1, c1, rfl, -⟩ := h1.form
  obtain ⟨A2, c2, rfl, -⟩ := h2.form
  have H := Lib.hid (fun W (hW : Below w.heap.size w W) => eqBytes_any hi1 hi2 _ _ x.2.2 W hn (h1.below hW hh1) (h2.below hW hh2))
  clear h1 h2
  have hb0 : Hid (∀ o1 o2, Below w.heap.size w ((w.alloc o1).alloc o2)) := Lib.hid fun o1 o2 => ((Below.refl _ _).alloc (Nat.le_refl _) _).alloc (by simp) _
  go_enter Tryd.func45, Tryd.ntmps45
  go_wp2_with fail
  refine (H.out _ (hb0.out _ _)).mono ?_
  rintro e w1 ⟨rfl, hb⟩
  have hb1 : Below w.heap.size w w1 := (hb0.out _ _).trans (hb.mono (by simp; omega))
  clear hb
  go_wp2
  go_ret
  exact ⟨rfl, hb1⟩
set_option maxRecDepth 100000 in
set_option maxHeartbeats 1600000 in
theorem szSlot_any (v : Value) (x : SlotD) (left : Int) (w : World) {hi : Nat} (h : rd .u8 hi w v x.2.2) (hs1 : x.1.size ≤ maxLen) (hs2 : x.2.1.size ≤ maxLen) (hn : x.2.2.length ≤ maxLen) (h0 : 0 ≤ left) (h1 : left ≤ 1048576) :
    Calls Tryd.prog 53 #[.agg #[.string x.1, .string x.2.1, v], .int .i64 left] w (szRes left (x.1.size + x.2.1.size + x.2.2.length) w) := by
  obtain ⟨A, c, rfl, -⟩ := h.form
  clear h
  unfold maxLen at hs1 hs2 hn
  have HB0 : Hid (Below w.heap.size w (w.alloc (.cells #[.string x.1, .string x.2.1, .slice A x.2.2.length c] 85))) := Lib.hid ((Below.refl _ _).alloc (Nat.le_refl _) _)
  have HI := Lib.hid (fun (l : Int) (W : World) (h0 : 0 ≤ l) (h2 : l ≤ 1048576) => (show Calls Tryd.prog 71 #[.slice A x.2.2.length c, .int .i64 l] W (fun e w' => e = .returned (.int .i64 (if l - (x.2.2.length : Int) < 0 then -1 else l - x.2.2.length)) ∧ W = w') by
    have hw : IntKind.i64.wrap (l - (x.2.2.length : Int)) = l - x.2.2.length := IntWalk.i64_in _ (by omega)
    by_cases hn' : l - (x.2.2.length : Int) < 0
    · rw [if_pos hn']
      go_enter Tryd.func71, Tryd.ntmps71
      go_wp2
      go_ret
      exact ⟨rfl, rfl⟩
    · rw [if_neg hn']
      go_enter Tryd.func71, Tryd.ntmps71
      go_wp2
      go_ret
      exact ⟨rfl, rfl⟩))
  by_cases b1 : left - (x.1.size : Int) < 0
  · go_enter Tryd.func53, Tryd.ntmps53
    go_wp2
    go_ret
    exact ⟨_, rfl, .inl rfl, HB0.out⟩
  by_cases b2 : left - (x.1.size : Int) - (x.2.1.size : Int) < 0
  · go_enter Tryd.func53, Tryd.ntmps53
    go_wp2
    go_ret
    exact ⟨_, rfl, .inl rfl, HB0.out⟩
  by_cases b3 : left - (x.1.size : Int) - (x.2.1.size : Int) - (x.2.2.length : Int) < 0
  · go_enter Tryd.func53, Tryd.ntmps53
    go_wp2_with fail
    refine (HI.out _ _ (by omega) (by omega)).mono ?_
    rw [if_pos b3]
    rintro e w1 ⟨rfl, rfl⟩
    go_wp2
    go_ret
    exact ⟨_, rfl, .inl rfl, HB0.out⟩
  · go_enter Tryd.func53, Tryd.ntmps53
    go_wp2_with fail
    refine (HI.out _ _ (by omega) (by omega)).mono ?_
    rw [if_neg (by omega : ¬ (left - (x.1.size : Int) - (x.2.1.size : Int) - (x.2.2.length : Int) < 0))]
    rintro e w1 ⟨rfl, rfl⟩
    go_wp2
    go_ret
    exact ⟨_, rfl, .inr ⟨by omega, by omega⟩, HB0.out⟩
end Go.Proofs.YtpeeagkfhdeagaaDoor
