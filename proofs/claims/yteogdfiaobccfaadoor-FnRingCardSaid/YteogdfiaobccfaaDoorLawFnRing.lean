/- FnRing: for every argument the law answers true: the program's function returns what the reference returns; the listed package variables hold what the program's text lays (tied). -/
import Derived.Test.YteogdfiaobccfaaDoorPost
import Derived.Test.YteogdfiaobccfaaDoorOpenB
import Derived.Test.YteogdfiaobccfaaDoorCards
import Derived.Test.YteogdfiaobccfaaDoorTie
import Derived.Stop.LaidErr
import Derived.LaidMore
import Derived.Stop.Joined
import Derived.SevenTiedAt
import Derived.WalkSmall
import Derived.LaidHandle
import Derived.Test.YteogdfiaobccfaaDoorRingQ
import Derived.Test.YteogdfiaobccfaaDoorRingH
import Derived.Test.YteogdfiaobccfaaDoorMakeA
import Derived.Test.YteogdfiaobccfaaDoorRingQI
import Derived.Test.YteogdfiaobccfaaDoorRingNI
import Derived.StillTailTactics
import Derived.BigQuiet
namespace Go.Proofs.YteogdfiaobccfaaDoor.fnRing
open Go.ChangeShapes Go.WideShapes Go.ChangeAt Go.RowKit
open Go.WideMaps Go.WideElems
open Go.ChangeMaps (open_string shut_string)
set_option linter.unusedVariables false

set_option maxRecDepth 100000 in
theorem own : ownKnob Tryd.prog.godebug = none := by kernel_rfl

set_option maxRecDepth 100000 in
set_option maxHeartbeats 8000000 in
theorem walk (w : World) (p0 : Addr) (hc0 : w.cell? ⟨0, 0, none⟩ = some (.iface 111 (.pointer (some p0)))) (hh : w.cell? ⟨1, 0, none⟩ = some (.iface 98 (.agg #[.pointer (some ⟨2, 76, none⟩)]))) (a0 : Value) (s0 : ∃ ao len cap, a0 = .slice ao len cap) (w0 : readable w w.heap.size a0) :
    Calls Tryd.prog 3 #[a0] w fun e w' => e = .returned (.bool true) ∧ Below w.heap.size w w' := by
  have HGH : Hid (Handle w) := Lib.hid hh
  clear hh
  obtain ⟨ao, len, cap, rfl⟩ := s0
  by_cases hbig : (1048576 : Int) < (len : Int)
  · go_enter Tryd.func3, Tryd.ntmps3
    go_wp2
    go_ret
    exact ⟨rfl, Below.refl _ _⟩
  have hlen : lenOf (.slice ao len cap) ≤ 1048576 := by show len ≤ 1048576; omega
  have HR := Lib.hid w0
  clear w0
  go_enter Tryd.func3, Tryd.ntmps3
  go_wp2_with fail
  refine (makeAdds_any _ w HR.out hlen).mono ?_
  rintro e w1 ⟨n, sp, ev, vt, va, rfl, hd, ht, ha, hb1⟩
  obtain ⟨N, rfl⟩ := Int.eq_ofNat_of_zero_le (show 0 ≤ n by have := hd.n1; omega)
  obtain ⟨AT, cT, rfl, -⟩ := ht.form
  obtain ⟨AA, cA, rfl, -⟩ := ha.form
  rw [List.length_map] at ht ha
  simp only [List.length_map]
  have d1 : 1 ≤ N := by have := hd.n1; omega
  have d2 : N ≤ 8 := by have := hd.n2; omega
  have d3 : 1 ≤ sp := hd.s1
  have d4 : sp ≤ 6 := hd.s2
  have d5 : ev.length ≤ 13 := hd.few
  have n1 : (sp == 0) = false := by simp; omega
  have n2 : ¬ sp = 0 := by omega
  have hRN : ringNew (N : Int) sp = (ringOf sp N [] 0, true) := by
    unfold ringNew
    rw [show (inB (N : Int) 1 8 && inB sp 1 1000) = true from by simp only [inB, Bool.and_eq_true, decide_eq_true_eq]; omega, if_pos rfl, ringOf_nil]
    rfl
  have HRN := Lib.hid hRN
  have HD := Lib.hid hd
  have HT1 := Lib.hid ht
  have HA1 := Lib.hid ha
  have z1 := hb1.size
  have HB1 := Lib.hid hb1
  clear hd ht ha hb1 hRN
  go_wp2_with fail
  refine (implRingNew_any (N : Int) sp w1).mono ?_
  rw [HRN.out]
  rintro e w2 ⟨vc, vs, rfl, hm2, hb2⟩
  obtain ⟨AC, cc, rfl, -⟩ := (ring2 hm2.rd).1.form
  obtain ⟨AS, cs, rfl, -⟩ := (ring2 hm2.rd).2.form
  have z2 := hb2.size
  have HT2 := Lib.hid (HT1.out.below hb2 (Nat.le_refl _))
  have HA2 := Lib.hid (HA1.out.below hb2 (Nat.le_refl _))
  have HB2 : Hid (Below w.heap.size w w2) := Lib.hid (HB1.out.trans (hb2.mono z1))
  have HM2 := Lib.hid hm2
  clear hm2 hb2 HT1 HA1 HB1
  rw [show (ringOf sp N [] 0).2.2.1.length = N from winB_len _ _ _ _ _, show (ringOf sp N [] 0).2.2.2.length = N from winB_len _ _ _ _ _] at HM2 ⊢
  have HM2 : Hid (RingR.mine w1.heap.size w2.heap.size w2 [.int .i64 sp, .int .i64 0, .slice AC N cc, .slice AS N cs] (ringOf sp N [] 0)) := HM2
  rw [show (ringOf sp N [] 0).1 = sp from rfl, show (ringOf sp N [] 0).2.1 = 0 from rfl]
  go_wp2
  obtain ⟨W3, hW3⟩ : ∃ W3, W3 = w2.alloc (.cells #[.int .i64 sp, .int .i64 0, .slice AC N cc, .slice AS N cs] 27) := ⟨_, rfl⟩
  have B3 := Lib.hid (bk.new w2 27 [.int .i64 sp, .int .i64 0, .slice AC N cc, .slice AS N cs])
  have hb3 := (Below.refl w2.heap.size w2).alloc (Nat.le_refl _) (.cells #[.int .i64 sp, .int .i64 0, .slice AC N cc, .slice AS N cs] 27)
  rw [show ([Value.int .i64 sp, .int .i64 0, .slice AC N cc, .slice AS N cs] : List Value).toArray = #[.int .i64 sp, .int .i64 0, .slice AC N cc, .slice AS N cs] from rfl] at B3
  rw [← hW3] at B3 hb3 ⊢
  clear hW3
  have z3 : w2.heap.size < W3.heap.size := B3.out.lt
  have HM3 : Hid (RingR.rd W3.heap.size W3 [.int .i64 sp, .int .i64 (0 / sp), .slice AC N cc, .slice AS N cs] (ringOf sp N (ev.take 0) (0 / sp))) := Lib.hid (by rw [Int.zero_ediv, List.take_zero]; exact ((HM2.out.below hb3 (Nat.le_refl _)).mono (Nat.zero_le _) (by omega)).rd)
  have HB3 : Hid (Below w2.heap.size w2 W3) := Lib.hid hb3
  have B3 : Hid (bk W3 w2.heap.size 27 [.int .i64 sp, .int .i64 (0 / sp), .slice AC N cc, .slice AS N cs]) := Lib.hid (by rw [Int.zero_ediv]; exact B3.out)
  have HF3 : Hid (Fed sp (ev.take 0) (0 / sp)) := Lib.hid (by rw [Int.zero_ediv, List.take_zero]; exact fed_nil sp)
  clear HM2 hb3
  go_loopw [35, 9] (fun iv nv wr => ∃ (i : Nat) (now : Int) (AC : Option Addr) (cc : Nat) (AS : Option Addr) (cs : Nat), i ≤ ev.length ∧ iv = .int .i64 i ∧ nv = .int .i64 now ∧ 0 ≤ now ∧ now ≤ 78 ∧ Hid (∀ e ∈ ev.drop i, now ≤ e.1) ∧ Hid (Fed sp (ev.take i) (now / sp)) ∧
    Hid (bk wr w2.heap.size 27 [.int .i64 sp, .int .i64 (now / sp), .slice AC N cc, .slice AS N cs]) ∧
    Hid (RingR.rd wr.heap.size wr [.int .i64 sp, .int .i64 (now / sp), .slice AC N cc, .slice AS N cs] (ringOf sp N (ev.take i) (now / sp))) ∧ Hid (Below w2.heap.size w2 wr) ∧ w2.heap.size < wr.heap.size) (fun iv _ _ => ev.length - (intOf iv).toNat)
  case atStart => exact ⟨0, 0, AC, cc, AS, cs, Nat.zero_le _, rfl, rfl, by omega, by omega, Lib.hid (fun e he => (HD.out.time e (by simpa using he)).1), HF3, B3, HM3, HB3, z3⟩
  case round =>
    obtain ⟨i, now, AC, cc, AS, cs, hi', rfl, rfl, w0, w1', HN, HF, HBK, HM, HBR, hz⟩ := hrel
    by_cases hin : i < ev.length
    · obtain ⟨⟨t, a⟩, hx⟩ : ∃ x, ev[i]? = some x := ⟨_, List.getElem?_eq_getElem hin⟩
      have hmem := List.mem_of_getElem? hx
      obtain ⟨t0, t1⟩ := HD.out.time _ hmem
      obtain ⟨a0, a1⟩ := HD.out.amt _ hmem
      have hdrop : ev.drop i = (t, a) :: ev.drop (i + 1) := by
        obtain ⟨h1, h2⟩ := List.getElem?_eq_some_iff.1 hx
        rw [List.drop_eq_getElem_cons h1, h2]
      have hnt : now ≤ t := HN.out (t, a) (by rw [hdrop]; exact List.mem_cons_self ..)
      have HTK : Hid (ev.take (i + 1) = ev.take i ++ [(t, a)]) := Lib.hid (by
        obtain ⟨h1, h2⟩ := List.getElem?_eq_some_iff.1 hx
        rw [List.take_succ_eq_append_getElem h1, h2])
      have HNX : Hid (∀ e ∈ ev.drop (i + 1), t ≤ e.1) := Lib.hid (by
        have h1 := HD.out.up.sublist (List.drop_sublist i ev)
        rw [hdrop] at h1
        exact (List.pairwise_cons.1 h1).1)
      have htm : timeB t = true := decide_eq_true ⟨t0, by show t ≤ 1000000000; omega⟩
      obtain ⟨HAD, HFD⟩ : Hid (ringAdd (ringOf sp N (ev.take i) (now / sp)) t a = ringOf sp N (ev.take i ++ [(t, a)]) (t / sp)) ∧ Hid (Fed sp (ev.take i ++ [(t, a)]) (t / sp)) := by
        obtain ⟨h1, h2⟩ := HF.out.add (n := N) d3 (by omega) d1 d2 htm (Int.ediv_le_ediv (by omega) hnt) a0 (by show a ≤ 1000; omega) (by rw [List.length_take]; omega)
        exact ⟨Lib.hid h1, Lib.hid h2⟩
      obtain ⟨b1, o1, rfl, hb1, hct⟩ := ring_at (HT2.out.below HBR.out z2) (x := t) (by rw [List.getElem?_map, hx]; rfl)
      obtain ⟨b2, o2, rfl, hb2, hca⟩ := ring_at (HA2.out.below HBR.out z2) (x := a) (by rw [List.getElem?_map, hx]; rfl)
      obtain ⟨⟨p0, p1, p2, p3⟩, f0, f1, f2, f3⟩ := HBK.out.cells
      have g1 : (i : Int) < (ev.length : Int) := by omega
      have g2 : 0 ≤ (i : Int) := by omega
      clear hx hmem hdrop htm
      go_upto_region 9 with fail
      refine wp_region_still_tail 6 (by kernel_rfl) (by kernel_rfl) ?_
      simp only [List.take_succ_cons, List.take_zero, List.drop_succ_cons, List.drop_zero]
      repeat still_step
      refine wpStill_nil ?_
      change wpList _ _ _ _ _ wr.drew
      go_wp2_with fail
      have hrr : RingR.rd wr.heap.size wr.drew [.int .i64 sp, .int .i64 (now / sp), .slice AC N cc, .slice AS N cs] (ringOf sp N (ev.take i) (now / sp)) := Rep.below (R := RingR) HM.out (Below.refl wr.heap.size wr).drew (Nat.le_refl _)
      have hq := implRingAdd_any wr.heap.size _ _ (ringOf sp N (ev.take i) (now / sp)) t a wr.drew (HGH.out.below (HB2.out.trans ((HBR.out.drew).mono (by omega))) (Nat.le_refl _)) (ring2 hrr).1 (ring2 hrr).2 (Nat.le_refl _) (by rw [show (ringOf sp N (ev.take i) (now / sp)).2.2.1.length = N from winB_len _ _ _ _ _]; omega) (by rw [show (ringOf sp N (ev.take i) (now / sp)).2.2.2.length = N from winB_len _ _ _ _ _]; omega)
      rw [HAD.out] at hq
      refine hq.mono ?_
      clear hq hrr
      rintro e w7 ⟨vc7, vs7, rfl, hm7, hb7⟩
      obtain ⟨A7, c7, rfl, -⟩ := (ring2 hm7.rd).1.form
      obtain ⟨A8, c8, rfl, -⟩ := (ring2 hm7.rd).2.form
      rw [show (ringOf sp N (ev.take i ++ [(t, a)]) (t / sp)).2.2.1.length = N from winB_len _ _ _ _ _, show (ringOf sp N (ev.take i ++ [(t, a)]) (t / sp)).2.2.2.length = N from winB_len _ _ _ _ _] at hm7 ⊢
      rw [show (ringOf sp N (ev.take i ++ [(t, a)]) (t / sp)).1 = sp from rfl, show (ringOf sp N (ev.take i ++ [(t, a)]) (t / sp)).2.1 = t / sp from rfl]
      have hm7 : RingR.mine wr.heap.size w7.heap.size w7 [.int .i64 sp, .int .i64 (t / sp), .slice A7 N c7, .slice A8 N c8] (ringOf sp N (ev.take i ++ [(t, a)]) (t / sp)) := hm7
      have hb7 : Below wr.heap.size wr w7 := (Below.refl wr.heap.size wr).drew.trans hb7
      have z7 : wr.heap.size ≤ w7.heap.size := hb7.size
      have hbk7 := HBK.out.below hb7 hz
      have HB7 : Hid (Below w2.heap.size w2 w7) := Lib.hid (HBR.out.trans (hb7.mono (by omega)))
      have HM7 := Lib.hid hm7
      have HBK7 := Lib.hid hbk7
      clear p0 p1 p2 p3 f0 f1 f2 f3 hm7 hb7
      obtain ⟨⟨p0, p1, p2, p3⟩, f0, f1, f2, f3⟩ := hbk7.cells
      clear hbk7
      go_wp2
      obtain ⟨W8, hW8⟩ : ∃ W8, W8 = (((w7.setCell ⟨w2.heap.size, 0, none⟩ (.int .i64 sp)).setCell ⟨w2.heap.size, 1, none⟩ (.int .i64 (t / sp))).setCell ⟨w2.heap.size, 2, none⟩ (.slice A7 N c7)).setCell ⟨w2.heap.size, 3, none⟩ (.slice A8 N c8) := ⟨_, rfl⟩
      have ht := ((((Turned.refl w2.heap.size (w2.heap.size + 1) w7).set (b := w2.heap.size) 0 (.int .i64 sp) (by omega) (by omega)).set (b := w2.heap.size) 1 (.int .i64 (t / sp)) (by omega) (by omega)).set (b := w2.heap.size) 2 (.slice A7 N c7) (by omega) (by omega)).set (b := w2.heap.size) 3 (.slice A8 N c8) (by omega) (by omega)
      have hbk8 := (((HBK7.out.set 0 (.int .i64 sp)).set 1 (.int .i64 (t / sp))).set 2 (.slice A7 N c7)).set 3 (.slice A8 N c8)
      rw [← hW8] at ht hbk8 ⊢
      clear hW8
      have z8 := ht.size
      go_roundw
      case rel => exact ⟨i + 1, t, A7, c7, A8, c8, by omega, by go_num, rfl, t0, t1, HNX, Lib.hid (by rw [HTK.out]; exact HFD.out), Lib.hid hbk8, Lib.hid (by rw [HTK.out]; exact ((HM7.out.turned ht (.inr (by omega)) (by omega)).mono (Nat.zero_le _) z8).rd), Lib.hid (HB7.out.trans (ht.below (Nat.le_refl _) (by omega))), by omega⟩
      case measure => simp [intOf] <;> omega
    · obtain rfl : i = ev.length := by omega
      rw [List.take_length] at HF HM
      clear HN
      go_wp2_with fail
      have hbw : Below w.heap.size w wr := HB2.out.trans (HBR.out.mono (by omega))
      refine (makeNum_any _ 20 wr ((HR.out.below hbw).le hbw.size) hlen (by decide) (by decide)).mono ?_
      rintro e w5 ⟨x, rfl, x0, x1, hb5⟩
      have z5 := hb5.size
      have HBK5 := Lib.hid (HBK.out.below hb5 hz)
      have HM5 : Hid (RingR.rd w5.heap.size w5 [.int .i64 sp, .int .i64 (now / sp), .slice AC N cc, .slice AS N cs] (ringOf sp N ev (now / sp))) := Lib.hid ((Rep.below (R := RingR) HM.out hb5 (Nat.le_refl _)) |> fun h => by obtain ⟨q1, q2⟩ := ring2 h; exact ring_rd_of (rd.mono q1 z5) (rd.mono q2 z5))
      have HBW : Hid (Below w.heap.size w w5) := Lib.hid (hbw.trans (hb5.mono hbw.size))
      have HT5 := Lib.hid (HT2.out.below (HBR.out.trans (hb5.mono (by omega))) z2)
      have HA5 := Lib.hid (HA2.out.below (HBR.out.trans (hb5.mono (by omega))) z2)
      clear HM HBK hb5 hbw HBR HT2 HA2
      obtain ⟨m, hm⟩ : ∃ m, m = now + x := ⟨_, rfl⟩
      have m0 : 0 ≤ m := by omega
      have m1 : m ≤ 97 := by omega
      have hmtm : timeB m = true := decide_eq_true ⟨m0, by show m ≤ 1000000000; omega⟩
      have hle : now / sp ≤ m / sp := Int.ediv_le_ediv (by omega) (by omega)
      obtain ⟨-, mq0, mq1⟩ := quo_ok m0 (by omega : m ≤ 1000000000) d3
      have mq2 : m / sp ≤ 97 := Int.le_trans (Int.ediv_le_self sp m0) m1
      have HOKR := Lib.hid (HF.out.ok (n := N) d3 (by omega) d1 d2)
      have HTC : Hid (ringTotal (ringOf sp N ev (now / sp)) m false = tot (fun _ => 1) (inW sp (m / sp - N)) ev) := Lib.hid (HF.out.total (n := N) d3 (by omega) d1 d2 hmtm hle false)
      have HTS : Hid (ringTotal (ringOf sp N ev (now / sp)) m true = tot Prod.snd (inW sp (m / sp - N)) ev) := Lib.hid (HF.out.total (n := N) d3 (by omega) d1 d2 hmtm hle true)
      obtain ⟨hh, hhd⟩ : ∃ hh, hh = m - m % 2 := ⟨_, rfl⟩
      have hh0 : 0 ≤ hh := by omega
      have hh1 : hh ≤ m := by omega
      have hhtm : timeB hh = true := decide_eq_true ⟨hh0, by show hh ≤ 1000000000; omega⟩
      have HRH := Lib.hid (HF.out.roll (n := N) d3 (by omega) d1 d2 hhtm)
      obtain ⟨H2, hH2⟩ : ∃ H2, H2 = (if now / sp < hh / sp then hh / sp else now / sp) := ⟨_, rfl⟩
      have hhq : hh / sp ≤ m / sp := Int.ediv_le_ediv (by omega) hh1
      have HF2 : Hid (Fed sp ev H2) := Lib.hid (HF.out.up (by rw [hH2]; split <;> omega) (by rw [hH2]; split <;> omega))
      have hle2 : H2 ≤ m / sp := by rw [hH2]; split <;> omega
      rw [← hH2] at HRH
      have HTH : Hid (ringTotal (ringOf sp N ev H2) m true = tot Prod.snd (inW sp (m / sp - N)) ev) := Lib.hid (HF2.out.total (n := N) d3 (by omega) d1 d2 hmtm hle2 true)
      clear hH2 hhq hhtm hle hle2 HF2 hmtm
      have HHD := Lib.hid hhd
      clear hhd
      go_upto_region 13 with fail
      rw [← hm]
      clear hm
      go_wp2
      go_loopw [55, 12, 13] (fun iv cv sv wr => ∃ (i q : Nat), i ≤ ev.length ∧ iv = .int .i64 i ∧ cv = .int .i64 (tot (fun _ => 1) (inW sp (m / sp - N)) (ev.take i)) ∧ sv = .int .i64 (tot Prod.snd (inW sp (m / sp - N)) (ev.take i)) ∧ wr = w5.drewN q) (fun iv _ _ _ => ev.length - (intOf iv).toNat)
      case atStart => exact ⟨0, 0, Nat.zero_le _, rfl, rfl, rfl, rfl⟩
      case round =>
        obtain ⟨i, q, hi', rfl, rfl, rfl, rfl⟩ := hrel
        by_cases hin : i < ev.length
        · obtain ⟨⟨t, a⟩, hx⟩ : ∃ x, ev[i]? = some x := ⟨_, List.getElem?_eq_getElem hin⟩
          have hmem := List.mem_of_getElem? hx
          obtain ⟨t0, t1⟩ := HD.out.time _ hmem
          obtain ⟨a0, a1⟩ := HD.out.amt _ hmem
          have t0 : 0 ≤ t := t0
          have t1 : t ≤ 78 := t1
          have a0 : 0 ≤ a := a0
          have a1 : a ≤ 89 := a1
          have HTK : Hid (ev.take (i + 1) = ev.take i ++ [(t, a)]) := Lib.hid (by
            obtain ⟨h1, h2⟩ := List.getElem?_eq_some_iff.1 hx
            rw [List.take_succ_eq_append_getElem h1, h2])
          obtain ⟨c0, c1⟩ := (HF.out.take i).one (inW sp (m / sp - N))
          obtain ⟨s0, s1⟩ := (HF.out.take i).two (inW sp (m / sp - N))
          have HC1 := Lib.hid (tot_snoc (fun _ => 1) (inW sp (m / sp - N)) (t, a) (ev.take i))
          have HS1 := Lib.hid (tot_snoc Prod.snd (inW sp (m / sp - N)) (t, a) (ev.take i))
          rw [← HTK.out] at HC1 HS1
          obtain ⟨b1, o1, rfl, hb1, hct⟩ := ring_at HT5.out (x := t) (by rw [List.getElem?_map, hx]; rfl)
          obtain ⟨b2, o2, rfl, hb2, hca⟩ := ring_at HA5.out (x := a) (by rw [List.getElem?_map, hx]; rfl)
          have g1 : (i : Int) < (ev.length : Int) := by omega
          have g2 : 0 ≤ (i : Int) := by omega
          obtain ⟨-, tq0, tq1⟩ := quo_ok t0 (by omega : t ≤ 1000000000) d3
          have tq2 : t / sp ≤ 78 := Int.le_trans (Int.ediv_le_self sp t0) t1
          have nn0 : (N : Int) ≤ 8 := by omega
          have nn1 : 1 ≤ (N : Int) := by omega
          clear hx hmem HTK
          generalize htc : tot (fun _ => 1) (inW sp (m / sp - N)) (ev.take i) = C at c0 c1 HC1 ⊢
          generalize hts : tot Prod.snd (inW sp (m / sp - N)) (ev.take i) = S at s0 s1 HS1 ⊢
          clear htc hts
          have gw : IntKind.i64.wrap (m / sp - (N : Int)) = m / sp - N := by rw [IntKind.wrap_i64]; omega
          have gw' : wrap64 (m / sp - (N : Int)) = m / sp - N := by unfold wrap64; omega
          by_cases hc : m / sp - N < t / sp
          · have HCN : Hid (tot (fun _ => 1) (inW sp (m / sp - N)) (ev.take (i + 1)) = C + 1) := Lib.hid (by rw [HC1.out, if_pos (show inW (sp) (m / sp - N) (t, a) = true from decide_eq_true hc)])
            have HSN : Hid (tot Prod.snd (inW sp (m / sp - N)) (ev.take (i + 1)) = S + a) := Lib.hid (by rw [HS1.out, if_pos (show inW (sp) (m / sp - N) (t, a) = true from decide_eq_true hc)])
            clear HC1 HS1
            go_upto_region 18 with fail
            go_quiet (fail)
            go_wp2
            go_roundw
            case rel => exact ⟨i + 1, q + nq, by omega, by go_num, by rw [HCN.out], by rw [HSN.out], rfl⟩
            case measure => simp [intOf] <;> omega
          · have HCN : Hid (tot (fun _ => 1) (inW sp (m / sp - N)) (ev.take (i + 1)) = C) := Lib.hid (by rw [HC1.out, if_neg (by simp only [inW, decide_eq_true_eq]; exact hc), Int.add_zero])
            have HSN : Hid (tot Prod.snd (inW sp (m / sp - N)) (ev.take (i + 1)) = S) := Lib.hid (by rw [HS1.out, if_neg (by simp only [inW, decide_eq_true_eq]; exact hc), Int.add_zero])
            clear HC1 HS1
            go_upto_region 18 with fail
            go_quiet (fail)
            go_wp2
            go_roundw
            case rel => exact ⟨i + 1, q + nq, by omega, by go_num, by rw [HCN.out], by rw [HSN.out], rfl⟩
            case measure => simp [intOf] <;> omega
        · obtain rfl : i = ev.length := by omega
          rw [List.take_length]
          generalize tot (fun _ => 1) (inW sp (m / sp - N)) ev = C at HTC ⊢
          generalize tot Prod.snd (inW sp (m / sp - N)) ev = S at HTS HTH ⊢
          have z6 : w5.heap.size ≤ (w5.drewN q).heap.size := Nat.le_refl _
          have HBK6 := Lib.hid (HBK5.out.drewN q)
          have HM6 : Hid (RingR.rd (w5.drewN q).heap.size (w5.drewN q) [.int .i64 sp, .int .i64 (now / sp), .slice AC N cc, .slice AS N cs] (ringOf sp N ev (now / sp))) := Lib.hid (Rep.below (R := RingR) HM5.out (below_drew' (Below.refl w5.heap.size w5) q) (Nat.le_refl _))
          have HB6 := Lib.hid (below_drew' HBW.out q)
          generalize w5.drewN q = w6 at *
          obtain ⟨⟨p0, p1, p2, p3⟩, -⟩ := HBK6.out.cells
          go_wp2_with fail
          rw [← HHD.out]
          have hq := implRingRoll_any w6.heap.size _ _ (ringOf sp N ev (now / sp)) hh w6 (ring2 HM6.out).1 (ring2 HM6.out).2 (Nat.le_refl _) (by rw [show (ringOf sp N ev (now / sp)).2.2.1.length = N from winB_len _ _ _ _ _]; omega) (by rw [show (ringOf sp N ev (now / sp)).2.2.2.length = N from winB_len _ _ _ _ _]; omega)
          rw [HRH.out] at hq
          refine hq.mono ?_
          clear hq
          rintro e w9 ⟨vc9, vs9, rfl, hm9, hb9⟩
          obtain ⟨A9, c9, rfl, -⟩ := (ring2 hm9.rd).1.form
          obtain ⟨AX, cX, rfl, -⟩ := (ring2 hm9.rd).2.form
          rw [show (ringOf sp N ev H2).2.2.1.length = N from winB_len _ _ _ _ _, show (ringOf sp N ev H2).2.2.2.length = N from winB_len _ _ _ _ _] at hm9 ⊢
          rw [show (ringOf sp N ev H2).1 = sp from rfl, show (ringOf sp N ev H2).2.1 = H2 from rfl]
          have hm9 : RingR.mine w6.heap.size w9.heap.size w9 [.int .i64 sp, .int .i64 H2, .slice A9 N c9, .slice AX N cX] (ringOf sp N ev H2) := hm9
          have z9 := hb9.size
          have z26 : w2.heap.size < w6.heap.size := by omega
          clear p0 p1 p2 p3
          go_upto_region 23 with fail
          obtain ⟨W10, hW10⟩ : ∃ W10, W10 = w9.alloc (.cells #[.int .i64 sp, .int .i64 H2, .slice A9 N c9, .slice AX N cX] 27) := ⟨_, rfl⟩
          have hbk := bk.new w9 27 [.int .i64 sp, .int .i64 H2, .slice A9 N c9, .slice AX N cX]
          have hb10 := (Below.refl w9.heap.size w9).alloc (Nat.le_refl _) (.cells #[.int .i64 sp, .int .i64 H2, .slice A9 N c9, .slice AX N cX] 27)
          rw [show ([Value.int .i64 sp, .int .i64 H2, .slice A9 N c9, .slice AX N cX] : List Value).toArray = #[.int .i64 sp, .int .i64 H2, .slice A9 N c9, .slice AX N cX] from rfl] at hbk
          rw [← hW10] at hbk hb10 ⊢
          clear hW10
          have z10 := hb10.size
          have hz10 := hbk.lt
          have h69 : Below w6.heap.size w6 W10 := hb9.trans (hb10.mono z9)
          have HKR := Lib.hid (HBK6.out.below h69 z26)
          have HKH := Lib.hid hbk
          have HMR : Hid (RingR.rd W10.heap.size W10 [.int .i64 sp, .int .i64 (now / sp), .slice AC N cc, .slice AS N cs] (ringOf sp N ev (now / sp))) := Lib.hid (by
            obtain ⟨q1, q2⟩ := ring2 (Rep.below (R := RingR) HM6.out h69 (Nat.le_refl _))
            exact ring_rd_of (rd.mono q1 h69.size) (rd.mono q2 h69.size))
          have HMH : Hid (RingR.rd W10.heap.size W10 [.int .i64 sp, .int .i64 H2, .slice A9 N c9, .slice AX N cX] (ringOf sp N ev H2)) := Lib.hid ((hm9.below hb10 (Nat.le_refl _)).mono (Nat.zero_le _) z10).rd
          have HBA : Hid (Below w.heap.size w W10) := Lib.hid (HB6.out.trans (h69.mono HB6.out.size))
          clear hm9 hb9 hb10 h69 hbk
          obtain ⟨⟨p0, p1, p2, p3⟩, -⟩ := HKR.out.cells
          go_wp2_with fail
          have hq := implRingOk_any W10.heap.size _ _ (ringOf sp N ev (now / sp)) W10 (ring2 HMR.out).1 (ring2 HMR.out).2 (Nat.le_refl _) (by rw [show (ringOf sp N ev (now / sp)).2.2.1.length = N from winB_len _ _ _ _ _]; omega) (by rw [show (ringOf sp N ev (now / sp)).2.2.2.length = N from winB_len _ _ _ _ _]; omega)
          rw [HOKR.out] at hq
          refine hq.mono ?_
          clear hq p0 p1 p2 p3
          rintro e v1 ⟨rfl, hv1⟩
          have y1 := hv1.size
          have HKR := Lib.hid (HKR.out.below hv1 (by omega))
          have HKH := Lib.hid (HKH.out.below hv1 (by omega))
          have HMR : Hid (RingR.rd v1.heap.size v1 [.int .i64 sp, .int .i64 (now / sp), .slice AC N cc, .slice AS N cs] (ringOf sp N ev (now / sp))) := Lib.hid (by
            obtain ⟨q1, q2⟩ := ring2 (Rep.below (R := RingR) HMR.out hv1 (Nat.le_refl _))
            exact ring_rd_of (rd.mono q1 hv1.size) (rd.mono q2 hv1.size))
          have HMH : Hid (RingR.rd v1.heap.size v1 [.int .i64 sp, .int .i64 H2, .slice A9 N c9, .slice AX N cX] (ringOf sp N ev H2)) := Lib.hid (by
            obtain ⟨q1, q2⟩ := ring2 (Rep.below (R := RingR) HMH.out hv1 (Nat.le_refl _))
            exact ring_rd_of (rd.mono q1 hv1.size) (rd.mono q2 hv1.size))
          have HBA : Hid (Below w.heap.size w v1) := Lib.hid (HBA.out.trans (hv1.mono HBA.out.size))
          clear hv1
          obtain ⟨⟨p0, p1, p2, p3⟩, -⟩ := HKR.out.cells
          go_wp2_with fail
          have hq := implCount_any v1.heap.size _ _ (ringOf sp N ev (now / sp)) m v1 (HGH.out.below HBA.out (Nat.le_refl _)) (ring2 HMR.out).1 (ring2 HMR.out).2 (Nat.le_refl _) (by rw [show (ringOf sp N ev (now / sp)).2.2.1.length = N from winB_len _ _ _ _ _]; omega) (by rw [show (ringOf sp N ev (now / sp)).2.2.2.length = N from winB_len _ _ _ _ _]; omega)
          rw [HTC.out] at hq
          refine hq.mono ?_
          clear hq p0 p1 p2 p3
          rintro e v2 ⟨rfl, hv2⟩
          have y2 := hv2.size
          have HKR := Lib.hid (HKR.out.below hv2 (by omega))
          have HKH := Lib.hid (HKH.out.below hv2 (by omega))
          have HMR : Hid (RingR.rd v2.heap.size v2 [.int .i64 sp, .int .i64 (now / sp), .slice AC N cc, .slice AS N cs] (ringOf sp N ev (now / sp))) := Lib.hid (by
            obtain ⟨q1, q2⟩ := ring2 (Rep.below (R := RingR) HMR.out hv2 (Nat.le_refl _))
            exact ring_rd_of (rd.mono q1 hv2.size) (rd.mono q2 hv2.size))
          have HMH : Hid (RingR.rd v2.heap.size v2 [.int .i64 sp, .int .i64 H2, .slice A9 N c9, .slice AX N cX] (ringOf sp N ev H2)) := Lib.hid (by
            obtain ⟨q1, q2⟩ := ring2 (Rep.below (R := RingR) HMH.out hv2 (Nat.le_refl _))
            exact ring_rd_of (rd.mono q1 hv2.size) (rd.mono q2 hv2.size))
          have HBA : Hid (Below w.heap.size w v2) := Lib.hid (HBA.out.trans (hv2.mono HBA.out.size))
          clear hv2
          obtain ⟨⟨p0, p1, p2, p3⟩, -⟩ := HKR.out.cells
          go_wp2_with fail
          have hq := implSum_any v2.heap.size _ _ (ringOf sp N ev (now / sp)) m v2 (HGH.out.below HBA.out (Nat.le_refl _)) (ring2 HMR.out).1 (ring2 HMR.out).2 (Nat.le_refl _) (by rw [show (ringOf sp N ev (now / sp)).2.2.1.length = N from winB_len _ _ _ _ _]; omega) (by rw [show (ringOf sp N ev (now / sp)).2.2.2.length = N from winB_len _ _ _ _ _]; omega)
          rw [HTS.out] at hq
          refine hq.mono ?_
          clear hq p0 p1 p2 p3
          rintro e v3 ⟨rfl, hv3⟩
          have y3 := hv3.size
          have HKR := Lib.hid (HKR.out.below hv3 (by omega))
          have HKH := Lib.hid (HKH.out.below hv3 (by omega))
          have HMR : Hid (RingR.rd v3.heap.size v3 [.int .i64 sp, .int .i64 (now / sp), .slice AC N cc, .slice AS N cs] (ringOf sp N ev (now / sp))) := Lib.hid (by
            obtain ⟨q1, q2⟩ := ring2 (Rep.below (R := RingR) HMR.out hv3 (Nat.le_refl _))
            exact ring_rd_of (rd.mono q1 hv3.size) (rd.mono q2 hv3.size))
          have HMH : Hid (RingR.rd v3.heap.size v3 [.int .i64 sp, .int .i64 H2, .slice A9 N c9, .slice AX N cX] (ringOf sp N ev H2)) := Lib.hid (by
            obtain ⟨q1, q2⟩ := ring2 (Rep.below (R := RingR) HMH.out hv3 (Nat.le_refl _))
            exact ring_rd_of (rd.mono q1 hv3.size) (rd.mono q2 hv3.size))
          have HBA : Hid (Below w.heap.size w v3) := Lib.hid (HBA.out.trans (hv3.mono HBA.out.size))
          clear hv3
          obtain ⟨⟨p0, p1, p2, p3⟩, -⟩ := HKH.out.cells
          go_wp2_with fail
          have hq := implSum_any v3.heap.size _ _ (ringOf sp N ev H2) m v3 (HGH.out.below HBA.out (Nat.le_refl _)) (ring2 HMH.out).1 (ring2 HMH.out).2 (Nat.le_refl _) (by rw [show (ringOf sp N ev H2).2.2.1.length = N from winB_len _ _ _ _ _]; omega) (by rw [show (ringOf sp N ev H2).2.2.2.length = N from winB_len _ _ _ _ _]; omega)
          rw [HTH.out] at hq
          refine hq.mono ?_
          clear hq p0 p1 p2 p3
          rintro e v4 ⟨rfl, hv4⟩
          go_wp2
          go_ret
          exact ⟨rfl, HBA.out.trans (hv4.mono HBA.out.size)⟩

set_option maxRecDepth 100000 in
theorem t0 : (Tryd.prog.globals[0]?).map (·.type) = some 76 := by kernel_rfl
set_option maxRecDepth 100000 in
theorem g0 : Tryd.prog.globalNamed "loop.example/g00735/impl.errNotMoney" = some 0 := by kernel_rfl
set_option maxRecDepth 100000 in
theorem cellsE : Tryd.prog.cellsOf 133 = 1 := by kernel_rfl
set_option maxRecDepth 100000 in
theorem cellsS : Tryd.prog.cellsOf 9 = 1 := by kernel_rfl
set_option maxRecDepth 100000 in
theorem star : "*" ++ "errors.errorString" = "*errors.errorString" := by decide
set_option maxRecDepth 100000 in
theorem rowE (u : TypeId) (h : Tryd.prog.typeName? 3 u = some "*errors.errorString") : u = 111 :=
  typeName_ptr_named (nm := "errors.errorString") (by rw [star]; kernel_rfl) (by kernel_rfl) (by decide) u (by rw [star]; exact h)
set_option maxRecDepth 100000 in
theorem gH : Tryd.prog.globalNamed "errors.errorType" = some 1 := by kernel_rfl
set_option maxRecDepth 100000 in
theorem rtH : (Tryd.prog.cutTypes.find? (·.1 == "internal/reflectlite.rtype")).map (·.2) = some 98 := by kernel_rfl
set_option maxRecDepth 100000 in
theorem oneH : ((List.range Tryd.prog.types.size).filter fun t => Tryd.prog.rowNamed t [101, 114, 114, 111, 114]) = [76] := by kernel_rfl
set_option maxRecDepth 100000 in
theorem handle_of {W : World} (h : handlesMet Tryd.prog [("errors.errorType", Rows.laid_errors_errorType)] W) : W.cell? ⟨1, 0, none⟩ = some (.iface 98 (.agg #[.pointer (some ⟨2, 76, none⟩)])) := by
  obtain ⟨name, u, ty, e1, e2, e3, e4, e5⟩ := h _ (List.mem_singleton.2 rfl)
  have en : name = [101, 114, 114, 111, 114] := (Option.some.inj e1).symm
  subst en
  obtain rfl := Option.some.inj (rtH.symm.trans e2)
  have hm : ty ∈ (List.range Tryd.prog.types.size).filter fun t => Tryd.prog.rowNamed t [101, 114, 114, 111, 114] := List.mem_filter.2 ⟨List.mem_range.2 e3, e4⟩
  rw [oneH] at hm
  obtain rfl := List.mem_singleton.1 hm
  have hh : typeHandle Tryd.prog 76 = .pointer (some ⟨2, 76, none⟩) := by kernel_rfl
  rw [hh] at e5
  simpa using World.var?_cell gH e5 0

set_option maxRecDepth 100000 in
theorem laidOut : laidOutB Tryd.prog = true := by kernel_rfl
set_option maxRecDepth 100000 in
theorem rowed : allRowed Tryd.prog Tryd.f3.params.toList = true := by kernel_rfl
set_option maxRecDepth 100000 in
theorem resT : Tryd.f3.resultTypes = #[4] := by kernel_rfl
set_option maxRecDepth 100000 in
theorem door_met (os : Os) (args : Array Value) : laidMetH Tryd.prog Rows.fnRingRow.laid ((World.doorLaid Tryd.prog 400 os).forCall (fun _ _ => 0) ⟨#[], args, []⟩).memory :=
  laidMetH_of_parts3 (fuel := 8) (laidMet_of_run' 8 (by kernel_rfl) (by kernel_rfl)) (by kernel_rfl) (by kernel_rfl)

set_option maxRecDepth 100000 in
theorem lifted (os : Os) (started : os.Started) (H : Type) (enc : TypeId × Value → H) :
    ReturnsInHanded {} Tryd.checked os 3 .any (fun w args => (Rows.fnRingSpec.pre enc Tryd.prog Tryd.f3 [] false w args ∧ laidMetH Tryd.prog Rows.fnRingRow.laid w) ∧ sizedMet enc Tryd.prog Tryd.f3 (OpenSpec.ofChange Rows.fnRingSpec) false w args)
      (Rows.fnRingSpec.post enc Tryd.prog Tryd.f3 false true false false) := by
  refine returnsInHanded_of_change_and (C := Tryd.checked) (X := fun w _ => laidMetH Tryd.prog Rows.fnRingRow.laid w) (fun _ _ _ hh h => h.of_heap hh) own started (by kernel_rfl) Tryd.func3
    (ChangeSpec.witness_shaped (enc := enc) (C := Tryd.checked) (os := os) (X := fun w _ => laidMetH Tryd.prog Rows.fnRingRow.laid w) false (World.doorLaid Tryd.prog 400 os) #[.slice none 0 0] 8 rfl (World.shaped_of_RefB (by kernel_rfl) (by kernel_rfl)) (by kernel_rfl) (by kernel_rfl) (by kernel_rfl) (door_met os _)) ?_
  intro W base args ds gs before hval0 hW _ _ hL0 _
  have hval : ∀ (j : Nat) t v, Tryd.f3.params[j]? = some t → args[j]? = some v → Value.okWide Tryd.prog W .any base t v := hval0
  have hW' := hW
  obtain ⟨p, q, hA0, hV, rfl, hfz, hnd⟩ := hW
  have hA : DataW.TrodAll enc Tryd.prog W 0 (fun _ => true) true Tryd.f3.params.toList args.toList ds p := hA0
  rw [Tryd.params3] at hA hval
  have hh := handle_of hL0.2
  have hL : laidMet Tryd.prog [("loop.example/g00735/impl.errNotMoney", Rows.laid_loop_example_g00735_impl_errNotMoney)] W := hL0.1
  obtain ⟨b0, s0, hv0, _, _, _⟩ := laid_sentinel hL g0 t0 Tryd.underlying76 rowE Tryd.underlying111 Tryd.underlying133 rfl rfl Tryd.underlying9 cellsE cellsS
  have hc0 : W.cell? ⟨0, 0, none⟩ = some (.iface 111 (.pointer (some b0))) := by simpa using World.var?_cell g0 hv0 0
  have hlt0 : 0 < W.heap.size := by
    rcases Nat.lt_or_ge 0 W.heap.size with h | h
    · exact h
    · simp [World.cell?, Array.getElem?_eq_none h] at hc0
  obtain ⟨v0, vs0, d0, ds0, p0, q0, hargs, rfl, rfl, h0, r0⟩ := trodAll_cons hA
  obtain ⟨rfl, rfl, rfl⟩ := trodAll_nil r0
  obtain rfl : args = #[v0] := by cases args; simp_all
  obtain ⟨rfl, rfl⟩ := hV.unique (vars_read1 enc g0 t0 Tryd.underlying76 hv0 trivial _)
  obtain ⟨ao0, len0, cap0, rfl, w0⟩ := open_readable (hval 0 22 v0 rfl rfl) h0
  clear hA0 hval0
  refine (walk W _ hc0 hh _ ⟨_, _, _, rfl⟩ w0).mono fun e W' ⟨he, hg⟩ => ?_
  subst he
  exact ⟨_, rfl, post_true laidOut rowed hW' rfl resT Tryd.underlying4 hg (vars_read1 enc g0 t0 Tryd.underlying76 (var?_below hg g0 hlt0 hv0) trivial _)⟩

set_option maxRecDepth 100000 in
theorem over : Rows.fnRingRow.holds Tryd.pinned (OpenSpec.ofChange Rows.fnRingSpec) :=
  OpenClaim.holds_of_wide 3 Tryd.f3 rfl rfl rfl rfl rfl rfl rfl ⟨rfl, rfl, rfl, rfl, rfl⟩ rfl rfl rfl rfl rfl (by kernel_rfl) Tryd.func3 (by kernel_rfl)
    (of_decide_eq_true (by kernel_rfl)) (by unfold Func.isWrapper; first | (rw [if_pos (by decide +kernel)]; kernel_rfl) | (rw [if_neg (by decide +kernel)]; exact ⟨rfl, rfl⟩))
    (fun os started H enc _ => lifted os started H enc)

set_option maxRecDepth 100000 in
theorem said : Rows.FnRingSaid :=
  over

set_option maxRecDepth 100000 in
theorem plain (f : FuncId) (fn : Func) (hf : Tryd.pinned.checked.prog.funcNamed "loop.example/g00735/laws.FnRing" = some f) (hfn : Tryd.pinned.checked.prog.funcs[f]? = some fn) :
    Rows.fnRingCard.stood.looks = Tryd.pinned.checked.prog.looks [] ∧ ∀ (j : Nat) t, fn.params[j]? = some t → Tryd.pinned.checked.prog.wantsStandIn t = false := by
  obtain rfl : f = 3 := Option.some.inj ((show Tryd.prog.funcNamed "loop.example/g00735/laws.FnRing" = some 3 by kernel_rfl).symm.trans hf) |>.symm
  obtain rfl : fn = Tryd.f3 := (Option.some.inj (Tryd.func3.symm.trans hfn)).symm
  refine ⟨by kernel_rfl, fun j t ht => ?_⟩
  rw [Tryd.params3] at ht
  have hm : t ∈ [22] := by simpa using Array.mem_of_getElem? ht
  have hall : ([22].all fun u => !Tryd.prog.wantsStandIn u) = true := by kernel_rfl
  exact (show Tryd.prog.wantsStandIn t = false by simpa using List.all_eq_true.1 hall t hm)

set_option maxRecDepth 100000 in
theorem proved : Rows.FnRingCardSaid :=
  Claim7.holds_tied_plain_at .later [] _ _ _ _ said (fun _ h => by cases h) (by kernel_rfl) (fun _ h => by cases h) fnRing_row_tie rfl ⟨rfl, rfl⟩ (by kernel_rfl) rfl plain (by kernel_rfl)
#print axioms proved
end Go.Proofs.YteogdfiaobccfaaDoor.fnRing
