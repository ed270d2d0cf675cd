/- FnLuhn's walk: a number with its check digit is accepted, and not if one digit is another. -/
import Derived.Test.YtbaefbkjobpnnaaLuhnMath
import Derived.Test.YtbaefbkjobpnnaaMakeD
import Derived.Deep.Cut
import Derived.Deep.RegionWith
import Derived.Deep.DeepCutAuto
set_option linter.unusedVariables false
namespace Go.Proofs.Ytbaefbkjobpnnaa
open Go.ChangeShapes Go.WideShapes Go.ChangeAt Go.RowKit

/-- block b holds the bytes of a list, and may be written -/
def rowIs (W : World) (b : Nat) (l : List UInt8) : Prop := ∀ j x, l[j]? = some x → W.cell? ⟨b, j, none⟩ = some (.int .u8 (x.toNat : Int)) ∧ W.frozen? ⟨b, j, none⟩ = false
theorem row_made (W : World) (s : ByteArray) (cap : Nat) (e : TypeId) : rowIs (W.alloc (.cells (bytesRow s cap) e ((bytesRow s cap).size, (bytesRow s cap).size + 1))) W.heap.size s.data.toList := by
  intro j x hx
  have hj : j < s.data.size := by have := (List.getElem?_eq_some_iff.1 hx).1; simpa using this
  constructor
  · rw [World.cell?_alloc_mark]
    unfold bytesRow
    rw [Array.getElem?_append_left (by simpa using hj), Array.getElem?_map]
    rw [Array.getElem?_toList] at hx
    rw [hx]; rfl
  · rw [World.frozen?_alloc_mark]
    have h2 : s.size = s.data.size := rfl
    have : j < (bytesRow s cap).size := by unfold bytesRow; simp; omega
    rw [decide_eq_false (by omega)]; rfl
theorem row_below {W W' : World} {b B : Nat} {l : List UInt8} (h : rowIs W b l) (hb : Below B W W') (hlt : b < B) : rowIs W' b l := by
  intro j x hx
  obtain ⟨h1, h2⟩ := h j x hx
  exact ⟨(hb.cell (p := ⟨b, j, none⟩) hlt).trans h1, (hb.frozen (p := ⟨b, j, none⟩) hlt).trans h2⟩
theorem row_set {W : World} {b : Nat} {l : List UInt8} (h : rowIs W b l) (k : Nat) (y : UInt8) {z : UInt8} (hk : l[k]? = some z) : rowIs (W.setCell ⟨b, k, none⟩ (.int .u8 (y.toNat : Int))) b (l.set k y) := by
  intro j x hx
  have hf : ∀ a, (W.setCell ⟨b, k, none⟩ (.int .u8 (y.toNat : Int))).frozen? a = W.frozen? a := fun a => by simp
  by_cases e : k = j
  · subst e
    rw [List.getElem?_set_self (List.getElem?_eq_some_iff.1 hk).1] at hx
    obtain rfl : y = x := by simpa using hx
    exact ⟨World.cell?_setCell_same _ _ _ (h k z hk).1, (hf _).trans (h k z hk).2⟩
  · rw [List.getElem?_set_ne e] at hx
    exact ⟨(World.cell?_setCell_other _ _ _ _ (fun he => e (by simpa using congrArg Addr.off he))).trans (h j x hx).1, (hf _).trans (h j x hx).2⟩
theorem row_back {W : World} {b n cap : Nat} {l : List UInt8} (h : rowIs W b l) (hn : n = l.length) : (convert 22 9 (.slice (some ⟨b, 0, none⟩) n cap)).run Try.prog W = .ok (.string ⟨l.toArray⟩) W := by
  subst hn
  refine run_convert_bytes_back (P := Try.prog) W 22 9 5 ⟨b, 0, none⟩ cap l Try.underlying22 Try.underlying5 Try.underlying9 (fun j hj => ?_)
  have : (⟨b, 0, none⟩ : Addr).add j = ⟨b, j, none⟩ := by unfold Addr.add; split <;> simp_all
  rw [this]
  exact (h j l[j] (List.getElem?_eq_getElem hj)).1
theorem readable.drew {w : World} {b : Nat} {sv : Value} (hr : readable w b sv) : readable w.drew b sv := by
  unfold readable at hr ⊢
  split at hr
  · exact hr
  · exact hr
  · exact hr
/-- one byte of the row is another digit -/
def turned (b : Nat) (u : List UInt8) (j : Nat) (w wx : World) : Prop :=
  ∃ y c : UInt8, isDig y = true ∧ u[j]? = some c ∧ c ≠ y ∧ rowIs wx b (u.set j y) ∧ Below w.heap.size w wx ∧ b < wx.heap.size
theorem turned_end {w w11 w12 : World} {B8 j : Nat} {u : List UInt8} {b : UInt8} {x : Int} (hr : rowIs w11 B8 u) (hb : Below w.heap.size w w11) (hs : B8 < w11.heap.size) (hB : w.heap.size ≤ B8)
    (hb12 : Below w11.drew.heap.size w11.drew w12) (hu : u[j]? = some b) (h0 : 48 ≤ b.toNat) (h1 : b.toNat ≤ 57) (hx0 : 0 ≤ x) (hx1 : x ≤ 8) :
    turned B8 u j w (w12.setCell ⟨B8, j, none⟩ (.int .u8 (IntKind.u8.wrap (IntKind.i64.wrap (48 + (IntKind.i64.wrap ((b.toNat : Int) - 48 + 1 + x)).tmod 10))))) := by
  have e1 : IntKind.i64.wrap ((b.toNat : Int) - 48 + 1 + x) = (b.toNat : Int) - 48 + 1 + x := IntWalk.i64_in _ (by omega)
  have e2 : ((b.toNat : Int) - 48 + 1 + x).tmod 10 = ((b.toNat : Int) - 48 + 1 + x) % 10 := Int.tmod_eq_emod_of_nonneg (by omega)
  have e3 : IntKind.i64.wrap (48 + ((b.toNat : Int) - 48 + 1 + x) % 10) = 48 + ((b.toNat : Int) - 48 + 1 + x) % 10 := IntWalk.i64_in _ (by omega)
  have e4 : IntKind.u8.wrap (48 + ((b.toNat : Int) - 48 + 1 + x) % 10) = 48 + ((b.toNat : Int) - 48 + 1 + x) % 10 := IntWalk.u8_in _ (by omega)
  rw [e1, e2, e3, e4]
  have hy : (UInt8.ofNat (48 + ((b.toNat : Int) - 48 + 1 + x) % 10).toNat).toNat = (48 + ((b.toNat : Int) - 48 + 1 + x) % 10).toNat := by
    rw [UInt8.toNat_ofNat']
    simp
    omega
  have hyi : ((UInt8.ofNat (48 + ((b.toNat : Int) - 48 + 1 + x) % 10).toNat).toNat : Int) = 48 + ((b.toNat : Int) - 48 + 1 + x) % 10 := by rw [hy]; omega
  refine ⟨UInt8.ofNat (48 + ((b.toNat : Int) - 48 + 1 + x) % 10).toNat, b, (isDig_iff _).2 (by rw [hy]; omega), hu, ?_, ?_, ?_, ?_⟩
  · intro e
    have := congrArg UInt8.toNat e
    rw [hy] at this
    omega
  · have hrw := row_set (row_below (W := w11.drew) hr hb12 hs) j (UInt8.ofNat (48 + ((b.toNat : Int) - 48 + 1 + x) % 10).toNat) hu
    rw [hyi] at hrw
    exact hrw
  · exact (hb.drew.trans (hb12.mono hb.size)).setCell hB _
  · have : B8 < w12.heap.size := Nat.lt_of_lt_of_le hs hb12.size
    simpa [World.setCell] using this
theorem luVal_bd {s : ByteArray} (hd : digs s = true) : 0 ≤ luVal s ∧ luVal s ≤ 9 := by
  simp only [luVal, hd, if_true]
  omega

set_option maxRecDepth 100000 in
set_option maxHeartbeats 1600000 in
theorem luhn_walk (sv : Value) (len cap : Nat) (ao : Option Addr) (hsv : sv = .slice ao len cap) (w : World) (hr : readable w w.heap.size sv) :
    Calls Try.prog 3 #[sv] w fun e w' => e = .returned (.bool true) ∧ Below w.heap.size w w' := by
  subst hsv
  by_cases hlen : (1048576 : Int) < (len : Int)
  · go_enter Try.func3, Try.ntmps3
    go_wp2
    go_ret
    exact ⟨rfl, Below.refl _ _⟩
  have hle : lenOf (.slice ao len cap) ≤ 1048576 := by show len ≤ 1048576; omega
  have hcv := fun (W : World) (c : Int) (T : TypeId) => conv_one W c T
  go_enter Try.func3, Try.ntmps3
  go_wp2_with fail
  refine (makeDigits_any _ w hr hle).mono ?_
  rintro e w1 ⟨t, rfl, ht1, ht2, htd, hb1⟩
  have hdg := digs_list ht1 htd
  have hsz : (⟨t.toArray⟩ : ByteArray).size = t.length := rfl
  have HD := Lib.hid hdg
  have HT := Lib.hid htd
  have hlv := luVal_bd hdg
  clear htd hdg
  go_wp2_with fail
  refine (implLuhn_any ⟨t.toArray⟩ _ (by rw [hsz]; omega)).mono ?_
  rintro e w2 ⟨rfl, hb2⟩
  clear hsz
  generalize hdv : luVal ⟨t.toArray⟩ = d at hlv ⊢
  have HV := Lib.hid hdv
  clear hdv
  have hd0 := hlv.1
  have hd1 := hlv.2
  clear hlv
  have hcB := fun W => run_bytes_of_string (P := Try.prog) W 9 22 5 ((⟨t.toArray⟩ : ByteArray) ++ (⟨#[UInt8.ofNat (48 + d).toNat]⟩ : ByteArray)) Try.underlying9 Try.underlying22 Try.underlying5
  go_upto_region 8 with (fail)
  generalize grownCap (w2.alloc (.cells #[.int .u8 (48 + d)] 5)) (t.length + 1) 0 5 = cap8
  have hrow0 := row_made (w2.alloc (.cells #[.int .u8 (48 + d)] 5)) ((⟨t.toArray⟩ : ByteArray) ++ (⟨#[UInt8.ofNat (48 + d).toNat]⟩ : ByteArray)) cap8 5
  have hbel : Below w.heap.size w ((w2.alloc (.cells #[.int .u8 (48 + d)] 5)).alloc (.cells (bytesRow ((⟨t.toArray⟩ : ByteArray) ++ (⟨#[UInt8.ofNat (48 + d).toNat]⟩ : ByteArray)) cap8) 5 ((bytesRow ((⟨t.toArray⟩ : ByteArray) ++ (⟨#[UInt8.ofNat (48 + d).toNat]⟩ : ByteArray)) cap8).size, (bytesRow ((⟨t.toArray⟩ : ByteArray) ++ (⟨#[UInt8.ofNat (48 + d).toNat]⟩ : ByteArray)) cap8).size + 1))) := by
    have h2 := hb1.trans (hb2.mono hb1.size)
    exact (h2.alloc h2.size _).alloc (by simp; have := h2.size; omega) _
  have hsz8 : w2.heap.size + 1 < ((w2.alloc (.cells #[.int .u8 (48 + d)] 5)).alloc (.cells (bytesRow ((⟨t.toArray⟩ : ByteArray) ++ (⟨#[UInt8.ofNat (48 + d).toNat]⟩ : ByteArray)) cap8) 5 ((bytesRow ((⟨t.toArray⟩ : ByteArray) ++ (⟨#[UInt8.ofNat (48 + d).toNat]⟩ : ByteArray)) cap8).size, (bytesRow ((⟨t.toArray⟩ : ByteArray) ++ (⟨#[UInt8.ofNat (48 + d).toNat]⟩ : ByteArray)) cap8).size + 1))).heap.size := by simp
  generalize ((w2.alloc (.cells #[.int .u8 (48 + d)] 5)).alloc (.cells (bytesRow ((⟨t.toArray⟩ : ByteArray) ++ (⟨#[UInt8.ofNat (48 + d).toNat]⟩ : ByteArray)) cap8) 5 ((bytesRow ((⟨t.toArray⟩ : ByteArray) ++ (⟨#[UInt8.ofNat (48 + d).toNat]⟩ : ByteArray)) cap8).size, (bytesRow ((⟨t.toArray⟩ : ByteArray) ++ (⟨#[UInt8.ofNat (48 + d).toNat]⟩ : ByteArray)) cap8).size + 1))) = W8 at hrow0 hbel hsz8 ⊢
  have hrow : rowIs W8 (w2.heap.size + 1) (t ++ [UInt8.ofNat (48 + d).toNat]) := by
    have : (w2.alloc (.cells #[.int .u8 (48 + d)] 5)).heap.size = w2.heap.size + 1 := by simp
    rw [this, str_snoc] at hrow0
    simpa using hrow0
  have hB8 : w.heap.size ≤ w2.heap.size + 1 := by have := (hb1.trans (hb2.mono hb1.size)).size; omega
  generalize w2.heap.size + 1 = B8 at hrow hsz8 hB8 ⊢
  have hr9 : rowIs W8.drew B8 (t ++ [UInt8.ofNat (48 + d).toNat]) := hrow
  have hb9 : Below w.heap.size w W8.drew := hbel.drew
  have hs9 : B8 < W8.drew.heap.size := hsz8
  generalize W8.drew = W9 at hr9 hb9 hs9 ⊢
  clear hrow hbel hsz8 hrow0 hcB hcv
  have hcd : isDig (UInt8.ofNat (48 + d).toNat) = true := dig_of hd0 hd1
  have hdo : dOf (UInt8.ofNat (48 + d).toNat) = d := by
    unfold dOf
    rw [UInt8.toNat_ofNat']
    simp
    omega
  have HY := Lib.hid (luhn_yes t _ ht1 HT.out hcd (hdo.trans HV.out.symm))
  have HNO := Lib.hid (luhn_no t _ ht1 HT.out hcd (hdo.trans HV.out.symm))
  have HA := Lib.hid (show (t ++ [UInt8.ofNat (48 + d).toNat]).all isDig = true by simp [HT.out, hcd])
  have hlu : (t ++ [UInt8.ofNat (48 + d).toNat]).length = t.length + 1 := by simp
  clear hcd hdo
  generalize hu : t ++ [UInt8.ofNat (48 + d).toNat] = u at hr9 HY HNO HA hlu ⊢
  clear hu
  have hback := row_back (cap := cap8) hr9 hlu.symm
  have hul : u.length ≤ 18 := by omega
  have hul1 : 1 ≤ u.length := by omega
  have hun : t.length + 1 = u.length := hlu.symm
  clear hlu
  rw [hun]
  rw [hun] at hback
  clear hun
  go_wp2_with fail
  refine (implLuhnOk_any ⟨u.toArray⟩ _ (by rw [size_of]; omega)).mono ?_
  rw [HY.out]
  rintro e w10 ⟨rfl, hb10⟩
  clear hback
  have hr10 := row_below hr9 hb10 hs9
  have hbb10 := hb9.trans (hb10.mono hb9.size)
  have hs10 : B8 < w10.heap.size := Nat.lt_of_lt_of_le hs9 hb10.size
  clear hr9 hb10 hs9
  go_wp2_with fail
  refine (makeNum_any (.slice ao len cap) _ w10 ((hr.below hbb10).le hbb10.size) hle (by omega) (by omega)).mono ?_
  rintro e w11 ⟨k, rfl, hk0, hk1, hb11⟩
  have hr11 := row_below hr10 hb11 hs10
  have hbb11 := hbb10.trans (hb11.mono hbb10.size)
  have hs11 : B8 < w11.heap.size := Nat.lt_of_lt_of_le hs10 hb11.size
  clear hr10 hb11 hs10
  obtain ⟨j, rfl⟩ := Int.eq_ofNat_of_zero_le hk0
  have hj : j < u.length := by omega
  obtain ⟨b, hub⟩ : ∃ b, u[j]? = some b := ⟨u[j], List.getElem?_eq_getElem hj⟩
  have hbd := (isDig_iff b).1 (List.all_eq_true.1 HA.out b (List.mem_of_getElem? hub))
  have HU := Lib.hid hub
  have hcell := (hr11 j b hub).1
  have hfree := (hr11 j b hub).2
  clear hub hk0 hk1
  have hbd0 : (48 : Int) ≤ (b.toNat : Int) := by omega
  have hbd1 : (b.toNat : Int) ≤ 57 := by omega
  clear hbd
  go_upto_region 11 with (fail)
  have hrd := (hr.below hbb11).le hbb11.size
  have e1 : IntKind.i64.wrap (b.toNat : Int) = (b.toNat : Int) := IntWalk.i64_in _ (by omega)
  have e2 : IntKind.i64.wrap ((b.toNat : Int) - 48) = (b.toNat : Int) - 48 := IntWalk.i64_in _ (by omega)
  have e3 : IntKind.i64.wrap ((b.toNat : Int) - 48 + 1) = (b.toNat : Int) - 48 + 1 := IntWalk.i64_in _ (by omega)
  have g1 : 0 ≤ (j : Int) := by omega
  have g2 : (j : Int) < (u.length : Int) := by omega
  have g3 : ((j : Nat) : Int).toNat = j := by omega
  go_cut [] (fun wx => turned B8 u j w wx)
  case first =>
    go_region_with ((go_at_call 12; refine (makeNum_any (.slice ao len cap) 9 _ (by first | exact hrd | exact hrd.drew) hle (by decide) (by decide)).mono ?_; rintro e w12 ⟨x, rfl, hx0, hx1, hb12⟩; have c12 := ((hb12.cell (p := ⟨B8, j, none⟩) hs11).trans hcell); have f12 := ((hb12.frozen (p := ⟨B8, j, none⟩) hs11).trans hfree)))
    all_goals
      go_wp2_with fail
      go_meet
      exact turned_end hr11 hbb11 hs11 hB8 hb12 HU.out (by omega) (by omega) hx0 (by omega)
  case rest =>
    obtain ⟨y, c, hy, hc, hne, hrw, hbw, hsw⟩ := hcut
    have hback := row_back (cap := cap8) (n := u.length) hrw (by simp)
    have HN := Lib.hid (HNO.out j c y hc hy hne)
    clear hrw hcell hfree hr11
    go_wp2_with fail
    refine (implLuhnOk_any ⟨(u.set j y).toArray⟩ _ (by rw [size_of, List.length_set]; omega)).mono ?_
    rw [HN.out]
    rintro e w14 ⟨rfl, hb14⟩
    go_wp2
    go_ret
    exact ⟨rfl, hbw.trans (hb14.mono hbw.size)⟩
end Go.Proofs.Ytbaefbkjobpnnaa
