/- Rings: their layout in memory, out of the words for slices of numbers. Plain facts; no conditions. -/
import Derived.Test.YtpeeagkfhdeagaaGreatDoorRep
set_option linter.unusedVariables false
namespace Go.Proofs.YtpeeagkfhdeagaaGreatDoor
open Go.ChangeShapes Go.WideShapes Go.ChangeAt Go.RowKit

/-- span, head, counts, sums -/
abbrev RingD := Int × Int × List Int × List Int
def IntsR : Rep (List Int) := (Rep.int .i64).slice
def RingR : Rep RingD := Rep.pair (Rep.int .i64) (Rep.pair (Rep.int .i64) (Rep.pair IntsR IntsR))

set_option maxRecDepth 100000 in
theorem ints_own {lo hi : Nat} {w : World} {v : Value} {l : List Int} (h : nums .i64 lo hi w v l) : ∃ F, IntsR.own w [v] l F ∧ F.Nodup ∧ (∀ b ∈ F, lo ≤ b ∧ b < hi) ∧ ∀ b ∈ F, blk v = some b := by
  obtain ⟨A, c, rfl, hc, hj⟩ := h
  cases l with
  | nil => exact ⟨[], ⟨A, c, rfl, hc, .inl ⟨rfl, rfl⟩⟩, List.nodup_nil, by simp, by simp⟩
  | cons y l =>
    obtain ⟨b, off, rfl, h1, h2, -, -⟩ := hj 0 (by simp)
    have hfl : List.flatten ((y :: l).map fun _ => ([] : List Nat)) = [] := by simp
    refine ⟨b :: List.flatten ((y :: l).map fun _ => []), ⟨_, c, rfl, hc, .inr ⟨b, off, _, rfl, rfl, by simp, fun j x G hx hG => ?_⟩⟩, by rw [hfl]; simp, ?_, ?_⟩
    · have hjl := (List.getElem?_eq_some_iff.1 hx).1
      have hG' : G = [] := by rw [List.getElem?_map, hx] at hG; simpa using hG.symm
      subst hG'
      obtain ⟨b', off', e, -, -, h3, h4⟩ := hj j hjl
      simp only [Option.some.injEq, Addr.mk.injEq, and_true] at e
      obtain ⟨rfl, rfl⟩ := e
      rw [List.getD_eq_getElem?_getD, hx] at h3
      have hk : off + j * (Rep.int .i64).k = off + j := by show off + j * 1 = _; rw [Nat.mul_one]
      refine ⟨[.int .i64 x], ⟨rfl, rfl⟩, atL_one.2 (by rw [hk]; exact h3), fun t ht => ?_⟩
      have ht0 : t = 0 := by have : t < 1 := ht; omega
      subst ht0
      rw [hk]; exact h4
    · rw [hfl]; intro b' hb'; rw [List.mem_singleton.1 hb']; exact ⟨h1, h2⟩
    · rw [hfl]; intro b' hb'; rw [List.mem_singleton.1 hb']; rfl
set_option maxRecDepth 100000 in
theorem ints_nums {lo hi : Nat} {w : World} {cs : List Value} {l : List Int} {F : List Nat} (h : IntsR.own w cs l F) (hF : ∀ b ∈ F, lo ≤ b ∧ b < hi) : ∃ v, cs = [v] ∧ nums .i64 lo hi w v l ∧ ∀ b, blk v = some b → b ∈ F := by
  obtain ⟨A, c, rfl, hc, h⟩ := h
  refine ⟨_, rfl, ⟨A, c, rfl, hc, fun j hl => ?_⟩, fun b hb => ?_⟩
  · rcases h with ⟨rfl, _⟩ | ⟨b, off, Fs, rfl, rfl, hFl, h⟩
    · simp at hl
    · obtain ⟨xs, hx, h2, h3⟩ := h j _ _ (List.getElem?_eq_getElem hl) (List.getElem?_eq_getElem (by omega : j < Fs.length))
      have hx' : xs = [.int .i64 l[j]] := hx.1
      subst hx'
      have hk : off + j * (Rep.int .i64).k = off + j := by show off + j * 1 = _; rw [Nat.mul_one]
      have hb := hF b (List.mem_cons_self ..)
      have h4 := h3 0 (by show 0 < 1; decide)
      have h5 := atL_one.1 h2
      rw [hk] at h4 h5
      refine ⟨b, off, rfl, hb.1, hb.2, ?_, h4⟩
      rw [h5, List.getD_eq_getElem?_getD, List.getElem?_eq_getElem hl]
      rfl
  · rcases h with ⟨rfl, _⟩ | ⟨b', off, Fs, rfl, rfl, hFl, h⟩
    · cases A with
      | none => simp [Proofs.YtpeeagkfhdeagaaGreatDoor.blk] at hb
      | some a => simp [Proofs.YtpeeagkfhdeagaaGreatDoor.blk] at hb
    · cases l with
      | nil => simp [Proofs.YtpeeagkfhdeagaaGreatDoor.blk] at hb
      | cons y l =>
        simp only [List.length_cons, Proofs.YtpeeagkfhdeagaaGreatDoor.blk, Option.some.injEq] at hb
        subst hb
        exact List.mem_cons_self ..
set_option maxRecDepth 100000 in
/-- a ring that is read -/
theorem ring_rd {hi : Nat} {w : World} {cs : List Value} {r : RingD} (h : RingR.rd hi w cs r) : ∃ vc vs, cs = [.int .i64 r.1, .int .i64 r.2.1, vc, vs] ∧ rd .i64 hi w vc r.2.2.1 ∧ rd .i64 hi w vs r.2.2.2 := by
  obtain ⟨a, b, rfl, h1, c, d, rfl, h2, e, f, rfl, h3, h4⟩ := h
  have h1' : a = [.int .i64 r.1] := h1
  have h2' : c = [.int .i64 r.2.1] := h2
  subst h1' h2'
  obtain ⟨vc, rfl, hc⟩ := Rep.to_rd h3
  obtain ⟨vs, rfl, hs⟩ := Rep.to_rd h4
  exact ⟨vc, vs, rfl, hc, hs⟩
set_option maxRecDepth 100000 in
theorem ring_rd_of {hi : Nat} {w : World} {vc vs : Value} {sp hd : Int} {c s : List Int} (h1 : rd .i64 hi w vc c) (h2 : rd .i64 hi w vs s) : RingR.rd hi w [.int .i64 sp, .int .i64 hd, vc, vs] (sp, hd, c, s) :=
  ⟨[_], [_, vc, vs], rfl, rfl, [_], [vc, vs], rfl, rfl, [vc], [vs], rfl, Rep.of_rd h1, Rep.of_rd h2⟩
set_option maxRecDepth 100000 in
/-- a ring of one's own -/
theorem ring_mine_of {lo hi : Nat} {w : World} {vc vs : Value} {sp hd : Int} {c s : List Int} (h1 : nums .i64 lo hi w vc c) (h2 : nums .i64 lo hi w vs s) (ha : ∀ b, blk vc = some b → blk vs ≠ some b) : RingR.mine lo hi w [.int .i64 sp, .int .i64 hd, vc, vs] (sp, hd, c, s) := by
  obtain ⟨F, hF, nF, bF, kF⟩ := ints_own h1
  obtain ⟨G, hG, nG, bG, kG⟩ := ints_own h2
  refine ⟨[] ++ ([] ++ (F ++ G)), ⟨[_], [_, vc, vs], [], _, rfl, rfl, ⟨rfl, rfl⟩, [_], [vc, vs], [], _, rfl, rfl, ⟨rfl, rfl⟩, [vc], [vs], F, G, rfl, rfl, hF, hG⟩, ?_, ?_⟩
  · simp only [List.nil_append]
    exact List.nodup_append.2 ⟨nF, nG, fun a hx b hy e => ha a (kF a hx) (by rw [e]; exact kG b hy)⟩
  · intro b hb
    simp only [List.nil_append, List.mem_append] at hb
    exact hb.elim (bF b) (bG b)
set_option maxRecDepth 100000 in
theorem ring_mine {lo hi : Nat} {w : World} {cs : List Value} {r : RingD} (h : RingR.mine lo hi w cs r) : ∃ vc vs, cs = [.int .i64 r.1, .int .i64 r.2.1, vc, vs] ∧ nums .i64 lo hi w vc r.2.2.1 ∧ nums .i64 lo hi w vs r.2.2.2 ∧ ∀ b, blk vc = some b → blk vs ≠ some b := by
  obtain ⟨F, ⟨a, b, G, H, rfl, rfl, ⟨h1, rfl⟩, c, d, I, J, rfl, rfl, ⟨h2, rfl⟩, e, f, K, L, rfl, rfl, h3, h4⟩, hn, hb⟩ := h
  have h1' : a = [.int .i64 r.1] := h1
  have h2' : c = [.int .i64 r.2.1] := h2
  subst h1' h2'
  simp only [List.nil_append] at hn hb
  obtain ⟨n1, n2, n3⟩ := List.nodup_append.1 hn
  obtain ⟨vc, rfl, hc, kc⟩ := ints_nums (lo := lo) (hi := hi) h3 fun b hx => hb b (List.mem_append_left _ hx)
  obtain ⟨vs, rfl, hs, ks⟩ := ints_nums (lo := lo) (hi := hi) h4 fun b hx => hb b (List.mem_append_right _ hx)
  exact ⟨vc, vs, rfl, hc, hs, fun b h1 h2 => n3 b (kc b h1) b (ks b h2) rfl⟩
end Go.Proofs.YtpeeagkfhdeagaaGreatDoor
