/- The reference's splitting: the pieces, in a new slice; no conditions. -/
import Derived.Test.YtbaefbkjobpnnaaDoorSplitM
import Derived.Test.YtbaefbkjobpnnaaDoorStrS
set_option linter.unusedVariables false
namespace Go.Proofs.YtbaefbkjobpnnaaDoor
open Go.ChangeShapes Go.WideShapes Go.ChangeAt Go.RowKit

theorem info_str : (Tryd.prog.info? 9).map (fun i => (i.zero, i.size, i.bytes)) = some (some (.string ByteArray.empty), 1, 16) := by kernel_rfl
def strV (l : List UInt8) : Value := .string ⟨l.toArray⟩

theorem ext_eq (s : ByteArray) (a b : Nat) : s.extract a b = ⟨((s.data.toList.drop a).take (b - a)).toArray⟩ := by
  apply ByteArray.ext
  rw [ByteArray.data_extract]
  apply Array.toList_inj.1
  simp [Array.toList_extract, List.extract_eq_take_drop]
def piece (s : ByteArray) (a b : Nat) : List UInt8 := (s.data.toList.drop a).take (b - a)
/-- how far the splitting has come -/
def cutTo (c : UInt8) (s : ByteArray) (k f : Nat) (out : List (List UInt8)) : Prop :=
  (k ≤ s.size ∧ f ≤ k ∧ splitL c s.data.toList = out ++ ahead (piece s f k) (splitL c (s.data.toList.drop k)) ∧ out.length ≤ k) ∨ (k = s.size + 1 ∧ splitL c s.data.toList = out ∧ out.length ≤ k)
theorem drop_one' (s : ByteArray) (k : Nat) (h : k < s.size) : s.data.toList.drop k = s[k] :: s.data.toList.drop (k + 1) := List.drop_eq_getElem_cons (by simpa using h)
theorem cut_start (c : UInt8) (s : ByteArray) : cutTo c s 0 0 [] := by
  refine Or.inl ⟨Nat.zero_le _, Nat.le_refl _, ?_, Nat.le_refl _⟩
  simp [piece, ahead_nil _ (splitL_ne c _)]
theorem cut_last {c : UInt8} {s : ByteArray} {f : Nat} {out : List (List UInt8)} (h : cutTo c s s.size f out) : cutTo c s (s.size + 1) (s.size + 1) (out ++ [piece s f s.size]) := by
  rcases h with ⟨_, _, h, hl⟩ | ⟨h, _⟩
  · refine Or.inr ⟨rfl, ?_, by simp; omega⟩
    rw [h, List.drop_eq_nil_of_le (by simp)]
    simp [splitL, ahead]
  · omega
theorem piece_next (s : ByteArray) {f k : Nat} (hf : f ≤ k) (hk : k < s.size) : piece s f (k + 1) = piece s f k ++ [s[k]] := by
  unfold piece
  rw [show k + 1 - f = (k - f) + 1 by omega, List.take_succ_eq_append_getElem (by simp; omega)]
  congr 2
  rw [List.getElem_drop]
  have : f + (k - f) = k := by omega
  simp only [this]
  rfl
theorem piece_none (s : ByteArray) (k : Nat) : piece s k k = [] := by simp [piece]
theorem cut_hit {c : UInt8} {s : ByteArray} {k f : Nat} {out : List (List UInt8)} (h : cutTo c s k f out) (hk : k < s.size) (hc : s[k] = c) : cutTo c s (k + 1) (k + 1) (out ++ [piece s f k]) := by
  rcases h with ⟨_, _, h, hl⟩ | ⟨h, _⟩
  · refine Or.inl ⟨by omega, Nat.le_refl _, ?_, by simp; omega⟩
    rw [h, drop_one' s k hk, piece_none, ahead_nil _ (splitL_ne c _)]
    simp [splitL, hc, ahead]
  · omega
theorem cut_miss {c : UInt8} {s : ByteArray} {k f : Nat} {out : List (List UInt8)} (h : cutTo c s k f out) (hk : k < s.size) (hc : s[k] ≠ c) : cutTo c s (k + 1) f out := by
  rcases h with ⟨_, hf, h, hl⟩ | ⟨h, _⟩
  · refine Or.inl ⟨by omega, by omega, ?_, by omega⟩
    rw [h, drop_one' s k hk]
    simp only [splitL, if_neg hc]
    rw [ahead_ahead, piece_next s hf hk]
  · omega
theorem cut_done {c : UInt8} {s : ByteArray} {f : Nat} {out : List (List UInt8)} (h : cutTo c s (s.size + 1) f out) : splitL c s.data.toList = out := by
  rcases h with ⟨h, _⟩ | ⟨_, h, _⟩
  · omega
  · exact h
theorem cut_len {c : UInt8} {s : ByteArray} {k f : Nat} {out : List (List UInt8)} (h : cutTo c s k f out) : out.length ≤ k := by
  rcases h with ⟨_, _, _, h⟩ | ⟨_, _, h⟩ <;> exact h
theorem cut_from {c : UInt8} {s : ByteArray} {k f : Nat} {out : List (List UInt8)} (h : cutTo c s k f out) (hk : k ≤ s.size) : f ≤ k := by
  rcases h with ⟨_, h, _⟩ | ⟨h, _⟩
  · exact h
  · omega

theorem one_cell (w : World) (x : Value) : ∀ (j : Nat) (u : Value), [x][j]? = some u → (w.alloc (.cells #[x] 9)).cell? ((⟨w.heap.size, 0, none⟩ : Addr).add j) = some u := by
  intro j u hu
  have hj : j = 0 := by have := (List.getElem?_eq_some_iff.1 hu).1; simp at this; omega
  subst hj
  have : x = u := by simpa using hu
  subst this
  have e : (⟨w.heap.size, 0, none⟩ : Addr).add 0 = ⟨w.heap.size, 0, none⟩ := by unfold Addr.add; rfl
  rw [e]
  simp
theorem own_step {w' : World} {B T : Nat} {v' : Value} {out : List (List UInt8)} {s : ByteArray} {f k : Nat} (h : w'.ownsRow B T 1 v' (out.length + 1) (out.map strV ++ [.string (s.extract f k)])) :
    w'.ownsRow B T 1 v' (out ++ [piece s f k]).length ((out ++ [piece s f k]).map strV) := by
  have e : (out ++ [piece s f k]).map strV = out.map strV ++ [.string (s.extract f k)] := by
    rw [List.map_append, ext_eq]; rfl
  rw [e, List.length_append]
  exact h

set_option maxRecDepth 100000 in
set_option maxHeartbeats 1600000 in
theorem specSplit_any (s : ByteArray) (c : UInt8) (w : World) (hs : s.size ≤ 1048576) :
    Calls Tryd.prog 46 #[.string s, .int .u8 (c.toNat : Int)] w fun e w' => ∃ v, e = .returned v ∧ w'.ownsRow w.heap.size 9 1 v (splitL c s.data.toList).length ((splitL c s.data.toList).map strV) ∧ Below w.heap.size w w' := by
  obtain ⟨i0, hi, hz0, hz1, hz2⟩ := info_parts info_str
  go_enter Tryd.func46, Tryd.ntmps46
  go_wp2
  go_loopw [5, 6, 7] (fun v fv iv wr => ∃ (k f : Nat) (out : List (List UInt8)), iv = .int .i64 k ∧ fv = .int .i64 f ∧ k ≤ s.size + 1 ∧ cutTo c s k f out ∧ wr.ownsRow w.heap.size 9 1 v out.length (out.map strV) ∧ Below w.heap.size w wr) (fun _ _ iv _ => s.size + 1 - (intOf iv).toNat)
  case atStart =>
    refine ⟨0, 0, [], rfl, rfl, Nat.zero_le _, cut_start c s, ⟨rfl, Or.inr ⟨w.heap.size, 0, #[], rfl, Nat.le_refl _, ?_, Nat.le_refl _, Nat.zero_le _, rfl, rfl⟩⟩, (Below.refl _ _).alloc (Nat.le_refl _) _⟩
    show (w.heap.push _)[w.heap.size]? = _
    simp
  case round =>
    obtain ⟨k, f, out, rfl, rfl, hk, hcut, hown, hbw⟩ := hrel
    have hol := cut_len hcut
    by_cases hks : k ≤ s.size
    · have hfk := cut_from hcut hks
      have HC := Lib.hid hcut
      clear hcut
      by_cases hend : k = s.size
      · have e1 : ((k : Int) == (s.size : Int)) = true := by rw [hend]; simp
        have HE := Lib.hid hend
        clear hend
        go_wp2_with (at_builtin; refine wpList_append_own _ rfl _ _ 41 rfl w.heap.size 9 i0 (.string ByteArray.empty) 1 16 Tryd.underlying41 hi hz0 hz1 hz2 rfl (by decide) _ _ _ rfl (hown.alloc _) ⟨wr.heap.size, 0, none⟩ 1 1 [.string (s.extract f k)] rfl rfl ?c1 ?c2 ?c3 ?c4 ?c5 ?_)
        case c1 => exact one_cell wr _
        case c2 => simp [Value.oneCell']
        case c3 => unfold maxLen; omega
        case c4 => omega
        case c5 => simp; have := hbw.size; omega
        intro v' w1 hown' hgrow _
        have hb1 := (hbw.alloc hbw.size (.cells #[.string (s.extract f k)] 9)).grown hgrow (by simp; have := hbw.size; omega) (fun x hx => ((hown.alloc (.cells #[.string (s.extract f k)] 9)).lt x hx).1)
        have hst := own_step hown'
        clear hown hown' hgrow hbw
        go_wp2
        go_roundw
        case rel =>
          refine ⟨k + 1, k + 1, out ++ [piece s f k], by go_num, by go_num, by omega, ?_, hst, hb1⟩
          have := HC.out
          rw [HE.out] at this ⊢
          exact cut_last this
        case measure => simp [intOf] <;> omega
      · have hlt : k < s.size := by omega
        have e1 : ((k : Int) == (s.size : Int)) = false := beq_eq_false_iff_ne.2 (by omega)
        clear hend
        by_cases hc : s[k] = c
        · have e2 : ((s[k].toNat : Int) == (c.toNat : Int)) = true := by rw [hc]; simp
          have HE := Lib.hid hc
          clear hc
          go_wp2_with (at_builtin; refine wpList_append_own _ rfl _ _ 41 rfl w.heap.size 9 i0 (.string ByteArray.empty) 1 16 Tryd.underlying41 hi hz0 hz1 hz2 rfl (by decide) _ _ _ rfl (hown.alloc _) ⟨wr.heap.size, 0, none⟩ 1 1 [.string (s.extract f k)] rfl rfl ?d1 ?d2 ?d3 ?d4 ?d5 ?_)
          case d1 => exact one_cell wr _
          case d2 => simp [Value.oneCell']
          case d3 => unfold maxLen; omega
          case d4 => omega
          case d5 => simp; have := hbw.size; omega
          intro v' w1 hown' hgrow _
          have hb1 := (hbw.alloc hbw.size (.cells #[.string (s.extract f k)] 9)).grown hgrow (by simp; have := hbw.size; omega) (fun x hx => ((hown.alloc (.cells #[.string (s.extract f k)] 9)).lt x hx).1)
          have hst := own_step hown'
          clear hown hown' hgrow hbw
          go_wp2
          go_roundw
          case rel => exact ⟨k + 1, k + 1, out ++ [piece s f k], by go_num, by go_num, by omega, cut_hit HC.out hlt HE.out, hst, hb1⟩
          case measure => simp [intOf] <;> omega
        · have e2 : ((s[k].toNat : Int) == (c.toNat : Int)) = false := beq_eq_false_iff_ne.2 (fun e => hc (UInt8.toNat_inj.1 (by omega)))
          have HE := Lib.hid hc
          have HO := Lib.hid hown
          clear hc hown
          go_wp2
          go_roundw
          case rel => exact ⟨k + 1, f, out, by go_num, rfl, by omega, cut_miss HC.out hlt HE.out, HO.out, hbw⟩
          case measure => simp [intOf] <;> omega
    · obtain rfl : k = s.size + 1 := by omega
      have hd := cut_done hcut
      have HD := Lib.hid hd
      have HO := Lib.hid hown
      clear hcut hd hown
      go_wp2
      go_ret
      refine ⟨_, rfl, ?_, hbw⟩
      rw [HD.out]
      exact HO.out
end Go.Proofs.YtbaefbkjobpnnaaDoor
