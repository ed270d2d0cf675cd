/- Slots in memory of one's own, cell by cell; no conditions. -/
import Derived.Test.YtpeeagkfhdeagaaDoorSlotC
import Derived.Test.YtpeeagkfhdeagaaDoorRingL
set_option linter.unusedVariables false
namespace Go.Proofs.YtpeeagkfhdeagaaDoor
open Go.ChangeShapes Go.WideShapes Go.ChangeAt Go.RowKit

set_option maxRecDepth 100000 in
theorem nums_own {K : IntKind} {lo hi : Nat} {w : World} {v : Value} {l : List Int} (h : nums K lo hi w v l) : (Rep.int K).slice.own w [v] l (Proofs.YtpeeagkfhdeagaaDoor.blk v).toList := by
  obtain ⟨A, c, rfl, hc, hj⟩ := h
  cases l with
  | nil => exact ⟨A, c, rfl, hc, .inl ⟨rfl, by cases A <;> rfl⟩⟩
  | cons y l =>
    obtain ⟨b, off, rfl, h1, h2, -, -⟩ := hj 0 (by simp)
    have hfl : List.flatten ((y :: l).map fun _ => ([] : List Nat)) = [] := by simp
    refine ⟨_, c, rfl, hc, .inr ⟨b, off, (y :: l).map fun _ => [], rfl, by rw [hfl]; rfl, by simp, fun j x G hx hG => ?_⟩⟩
    have hjl := (List.getElem?_eq_some_iff.1 hx).1
    have hG' : G = [] := by rw [List.getElem?_map, hx] at hG; simpa using hG.symm
    subst hG'
    obtain ⟨b', off', e, -, -, h3, h4⟩ := hj j hjl
    simp only [Option.some.injEq, Addr.mk.injEq, and_true] at e
    obtain ⟨rfl, rfl⟩ := e
    rw [List.getD_eq_getElem?_getD, hx] at h3
    have hk : off + j * (Rep.int K).k = off + j := by show off + j * 1 = _; rw [Nat.mul_one]
    refine ⟨[.int K x], ⟨rfl, rfl⟩, atL_one.2 (by rw [hk]; exact h3), fun t ht => ?_⟩
    have ht0 : t = 0 := by have : t < 1 := ht; omega
    subst ht0
    rw [hk]; exact h4
set_option maxRecDepth 100000 in
theorem own_nums {K : IntKind} {lo hi : Nat} {w : World} {cs : List Value} {l : List Int} {F : List Nat} (h : (Rep.int K).slice.own w cs l F) (hF : ∀ b ∈ F, lo ≤ b ∧ b < hi) : ∃ v, cs = [v] ∧ nums K lo hi w v l ∧ ∀ b, Proofs.YtpeeagkfhdeagaaDoor.blk v = some b → b ∈ F := by
  obtain ⟨A, c, rfl, hc, h⟩ := h
  refine ⟨_, rfl, ⟨A, c, rfl, hc, fun j hl => ?_⟩, fun b hb => ?_⟩
  · rcases h with ⟨rfl, _⟩ | ⟨b, off, Fs, rfl, rfl, hFl, h⟩
    · simp at hl
    · obtain ⟨xs, hx, h2, h3⟩ := h j _ _ (List.getElem?_eq_getElem hl) (List.getElem?_eq_getElem (by omega : j < Fs.length))
      have hx' : xs = [.int K l[j]] := hx.1
      subst hx'
      have hk : off + j * (Rep.int K).k = off + j := by show off + j * 1 = _; rw [Nat.mul_one]
      have hb := hF b (List.mem_cons_self ..)
      have h4 := h3 0 (by show 0 < 1; decide)
      have h5 := atL_one.1 h2
      rw [hk] at h4 h5
      refine ⟨b, off, rfl, hb.1, hb.2, ?_, h4⟩
      rw [h5, List.getD_eq_getElem?_getD, List.getElem?_eq_getElem hl]
      rfl
  · rcases h with ⟨rfl, _⟩ | ⟨b', off, Fs, rfl, rfl, hFl, h⟩
    · cases A <;> simp [Proofs.YtpeeagkfhdeagaaDoor.blk] at hb
    · cases l with
      | nil => simp [Proofs.YtpeeagkfhdeagaaDoor.blk] at hb
      | cons y l =>
        simp only [List.length_cons, Proofs.YtpeeagkfhdeagaaDoor.blk, Option.some.injEq] at hb
        subst hb
        exact List.mem_cons_self ..
set_option maxRecDepth 100000 in
theorem slot_own {lo hi : Nat} {w : World} {cs : List Value} {x : SlotD} {F : List Nat} (h : SlotR.own w cs x F) (hF : ∀ b ∈ F, lo ≤ b ∧ b < hi) : ∃ A c, cs = sCells (x, (A, c)) ∧ nums .u8 lo hi w (sv (x, (A, c))) x.2.2 ∧ ∀ b, Proofs.YtpeeagkfhdeagaaDoor.blk (sv (x, (A, c))) = some b → b ∈ F := by
  obtain ⟨a, b, G, H, rfl, rfl, ⟨h1, rfl⟩, c, d, I, J, rfl, rfl, ⟨h2, rfl⟩, h3⟩ := h
  have h1' : a = [.string x.1] := h1
  have h2' : c = [.string x.2.1] := h2
  subst h1' h2'
  simp only [List.nil_append] at hF
  obtain ⟨u, rfl, hu, hm⟩ := own_nums (lo := lo) (hi := hi) h3 hF
  obtain ⟨A, c, rfl, -⟩ := hu.form
  exact ⟨A, c, rfl, hu, hm⟩
set_option maxRecDepth 100000 in
theorem slot_own_of {lo hi : Nat} {w : World} {x : SlotV} (h : nums .u8 lo hi w (sv x) x.1.2.2) : SlotR.own w (sCells x) x.1 (Proofs.YtpeeagkfhdeagaaDoor.blk (sv x)).toList :=
  ⟨[_], [_, _], [], _, rfl, rfl, ⟨rfl, rfl⟩, [_], [_], [], _, rfl, rfl, ⟨rfl, rfl⟩, nums_own h⟩
/-- slots of one's own: the row's block, and each reply in a block of its own -/
structure SlotsM (lo hi : Nat) (w : World) (b off : Nat) (ps : List SlotV) : Prop where
  bnd : lo ≤ b ∧ b < hi
  cells : ∀ (j : Nat) (x : SlotV), ps[j]? = some x → atL w b (off + j * 3) (sCells x)
  free : ∀ j t, j < ps.length → t < 3 → w.frozen? ⟨b, off + j * 3 + t, none⟩ = false
  own : ∀ (j : Nat) (x : SlotV), ps[j]? = some x → nums .u8 lo hi w (sv x) x.1.2.2
  row : ∀ (j : Nat) (x : SlotV), ps[j]? = some x → Proofs.YtpeeagkfhdeagaaDoor.blk (sv x) ≠ some b
  sep : ∀ (i j : Nat) (x y : SlotV), i ≠ j → ps[i]? = some x → ps[j]? = some y → ∀ g, Proofs.YtpeeagkfhdeagaaDoor.blk (sv x) = some g → Proofs.YtpeeagkfhdeagaaDoor.blk (sv y) ≠ some g
set_option maxRecDepth 100000 in
theorem slots_mem {lo hi : Nat} {w : World} {v : Value} {l : List SlotD} (h : SlotsR.mine lo hi w [v] l) :
    ∃ A c, v = .slice A l.length c ∧ l.length ≤ c ∧ (l = [] ∨ ∃ b off ps, A = some ⟨b, off, none⟩ ∧ ps.map (·.1) = l ∧ SlotsM lo hi w b off ps) := by
  obtain ⟨F, ⟨A, c, hv, hc, h⟩, hn, hF⟩ := h
  simp only [List.cons.injEq, and_true] at hv
  refine ⟨A, c, hv, hc, ?_⟩
  rcases h with ⟨rfl, _⟩ | ⟨b, off, Fs, rfl, rfl, hl, h⟩
  · exact .inl rfl
  rw [List.nodup_cons] at hn
  obtain ⟨hn1, hn2⟩ := hn
  rw [List.Nodup, List.pairwise_flatten] at hn2
  have hdis := List.pairwise_iff_getElem.1 hn2.2
  have hall : ∀ j : Nat, ∃ a : Option Addr × Nat, ∀ x G, l[j]? = some x → Fs[j]? = some G → atL w b (off + j * 3) (sCells (x, a)) ∧ freeL w b (off + j * 3) 3 ∧ nums .u8 lo hi w (sv (x, a)) x.2.2 ∧ ∀ g, Proofs.YtpeeagkfhdeagaaDoor.blk (sv (x, a)) = some g → g ∈ G := fun j => by
    cases hx : l[j]? with
    | none => exact ⟨(none, 0), fun x G hx' => by cases hx'⟩
    | some y =>
      have hj := (List.getElem?_eq_some_iff.1 hx).1
      have hG : Fs[j]? = some (Fs[j]'(by omega)) := List.getElem?_eq_getElem (by omega)
      obtain ⟨xs, h1, h2, h3⟩ := h j y _ hx hG
      obtain ⟨A', c', rfl, hu, hm⟩ := slot_own (lo := lo) (hi := hi) h1 fun b' hb' => hF b' (List.mem_cons_of_mem _ (List.mem_flatten.2 ⟨_, List.mem_of_getElem? hG, hb'⟩))
      refine ⟨(A', c'), fun x G hx' hG' => ?_⟩
      cases hx'
      rw [hG] at hG'
      cases hG'
      exact ⟨h2, h3, hu, hm⟩
  obtain ⟨f, hf⟩ := Classical.skolem.1 hall
  have hget : ∀ (j : Nat) (x : SlotV), ((List.range l.length).map fun j => ((l.getD j (⟨#[]⟩, ⟨#[]⟩, []), f j) : SlotV))[j]? = some x → j < l.length ∧ l[j]? = some x.1 ∧ x = (x.1, f j) := fun j x hx => by
    rw [List.getElem?_map] at hx
    obtain ⟨k, hk, rfl⟩ := Option.map_eq_some_iff.1 hx
    obtain ⟨h1, h2⟩ := List.getElem?_eq_some_iff.1 hk
    rw [List.length_range] at h1
    rw [List.getElem_range] at h2
    subst h2
    exact ⟨h1, by rw [List.getD_eq_getElem?_getD, List.getElem?_eq_getElem h1]; rfl, rfl⟩
  have hFs : ∀ j, j < l.length → Fs[j]? = some (Fs.getD j []) := fun j hj => by rw [List.getD_eq_getElem?_getD, List.getElem?_eq_getElem (by omega : j < Fs.length)]; rfl
  refine .inr ⟨b, off, (List.range l.length).map fun j => (l.getD j (⟨#[]⟩, ⟨#[]⟩, []), f j), rfl, ?_, ⟨hF b (List.mem_cons_self ..), fun j x hx => ?_, fun j t hj ht => ?_, fun j x hx => ?_, fun j x hx e => ?_, fun i j x y hij hx hy g h1 h2 => ?_⟩⟩
  · apply List.ext_getElem?
    intro j
    rw [List.map_map, List.getElem?_map]
    by_cases hj : j < l.length
    · rw [List.getElem?_range hj, List.getElem?_eq_getElem hj]
      show some (l.getD j _) = _
      rw [List.getD_eq_getElem?_getD, List.getElem?_eq_getElem hj]; rfl
    · rw [List.getElem?_eq_none (by simp; omega), List.getElem?_eq_none (by omega)]; rfl
  · obtain ⟨hj, h1, h2⟩ := hget j x hx
    rw [h2]
    exact (hf j x.1 _ h1 (hFs j hj)).1
  · rw [List.length_map, List.length_range] at hj
    exact (hf j _ _ (List.getElem?_eq_getElem hj) (hFs j hj)).2.1 t ht
  · obtain ⟨hj, h1, h2⟩ := hget j x hx
    rw [h2]
    exact (hf j x.1 _ h1 (hFs j hj)).2.2.1
  · obtain ⟨hj, h1, h2⟩ := hget j x hx
    rw [h2] at e
    exact hn1 (List.mem_flatten.2 ⟨_, List.mem_of_getElem? (hFs j hj), (hf j x.1 _ h1 (hFs j hj)).2.2.2 b e⟩)
  · obtain ⟨hi', h3, h4⟩ := hget i x hx
    obtain ⟨hj, h5, h6⟩ := hget j y hy
    rw [h4] at h1
    rw [h6] at h2
    have m1 := (hf i x.1 _ h3 (hFs i hi')).2.2.2 g h1
    have m2 := (hf j y.1 _ h5 (hFs j hj)).2.2.2 g h2
    have e1 : Fs.getD i [] = Fs[i]'(by omega) := by rw [List.getD_eq_getElem?_getD, List.getElem?_eq_getElem (by omega : i < Fs.length)]; rfl
    have e2 : Fs.getD j [] = Fs[j]'(by omega) := by rw [List.getD_eq_getElem?_getD, List.getElem?_eq_getElem (by omega : j < Fs.length)]; rfl
    rw [e1] at m1
    rw [e2] at m2
    rcases Nat.lt_or_gt_of_ne hij with h7 | h7
    · exact hdis i j (by omega) (by omega) h7 g m1 g m2 rfl
    · exact hdis j i (by omega) (by omega) h7 g m2 g m1 rfl
set_option maxRecDepth 100000 in
theorem SlotsM.mine {lo hi b off c : Nat} {w : World} {ps : List SlotV} (h : SlotsM lo hi w b off ps) (hc : ps.length ≤ c) : SlotsR.mine lo hi w [.slice (some ⟨b, off, none⟩) ps.length c] (ps.map (·.1)) := by
  have hmem : ∀ g ∈ List.flatten (ps.map fun x => (Proofs.YtpeeagkfhdeagaaDoor.blk (sv x)).toList), ∃ (j : Nat) (x : SlotV), ps[j]? = some x ∧ Proofs.YtpeeagkfhdeagaaDoor.blk (sv x) = some g := fun g hg => by
    obtain ⟨G, hG, hgG⟩ := List.mem_flatten.1 hg
    obtain ⟨x, hx, rfl⟩ := List.mem_map.1 hG
    obtain ⟨j, hj⟩ := List.mem_iff_getElem?.1 hx
    exact ⟨j, x, hj, by simpa using hgG⟩
  refine ⟨b :: List.flatten (ps.map fun x => (Proofs.YtpeeagkfhdeagaaDoor.blk (sv x)).toList), ⟨some ⟨b, off, none⟩, c, by rw [List.length_map], by rw [List.length_map]; exact hc, .inr ⟨b, off, _, rfl, rfl, by rw [List.length_map, List.length_map], fun j x G hx hG => ?_⟩⟩, ?_, ?_⟩
  · rw [List.getElem?_map] at hx hG
    obtain ⟨y, hy, rfl⟩ := Option.map_eq_some_iff.1 hx
    rw [hy] at hG
    cases hG
    exact ⟨sCells y, slot_own_of (h.own j y hy), h.cells j y hy, fun t ht => h.free j t (List.getElem?_eq_some_iff.1 hy).1 ht⟩
  · rw [List.nodup_cons]
    refine ⟨fun hb => ?_, ?_⟩
    · obtain ⟨j, x, hx, e⟩ := hmem b hb
      exact h.row j x hx e
    · rw [List.Nodup, List.pairwise_flatten]
      refine ⟨fun G hG => ?_, ?_⟩
      · obtain ⟨x, -, rfl⟩ := List.mem_map.1 hG
        cases Proofs.YtpeeagkfhdeagaaDoor.blk (sv x) <;> simp
      · rw [List.pairwise_map, List.pairwise_iff_getElem]
        intro i j hi' hj hij g h1 g' h2 e
        subst e
        exact h.sep i j _ _ (by omega) (List.getElem?_eq_getElem hi') (List.getElem?_eq_getElem hj) g (by simpa using h1) (by simpa using h2)
  · intro g hg
    rcases List.mem_cons.1 hg with rfl | hg
    · exact h.bnd
    · obtain ⟨j, x, hx, e⟩ := hmem g hg
      exact (h.own j x hx).blk g e
set_option maxRecDepth 100000 in
/-- one element made anew -/
theorem SlotsM.put {lo hi b off i : Nat} {w w' : World} {ps : List SlotV} {x y : SlotV} (h : SlotsM lo hi w b off ps) (hx : ps[i]? = some x) (hs : sv y = sv x) (hc : atL w' b (off + i * 3) (sCells y)) (hco : ∀ (j : Nat) (z : SlotV), j ≠ i → ps[j]? = some z → atL w' b (off + j * 3) (sCells z))
    (hf : ∀ t, w'.frozen? ⟨b, t, none⟩ = w.frozen? ⟨b, t, none⟩) (ho : nums .u8 lo hi w' (sv y) y.1.2.2) (hoo : ∀ (j : Nat) (z : SlotV), j ≠ i → ps[j]? = some z → nums .u8 lo hi w' (sv z) z.1.2.2) : SlotsM lo hi w' b off (ps.set i y) := by
  have hi' := (List.getElem?_eq_some_iff.1 hx).1
  have hget : ∀ (j : Nat) (z : SlotV), (ps.set i y)[j]? = some z → (j = i ∧ z = y) ∨ (j ≠ i ∧ ps[j]? = some z) := fun j z hz => by
    by_cases e : i = j
    · subst e
      rw [List.getElem?_set_self hi'] at hz
      exact .inl ⟨rfl, (Option.some.inj hz).symm⟩
    · rw [List.getElem?_set_ne e] at hz
      exact .inr ⟨fun e' => e e'.symm, hz⟩
  have hsv : ∀ (j : Nat) (z : SlotV), (ps.set i y)[j]? = some z → ∃ z', ps[j]? = some z' ∧ sv z = sv z' := fun j z hz => by
    rcases hget j z hz with ⟨rfl, rfl⟩ | ⟨-, h1⟩
    · exact ⟨x, hx, hs⟩
    · exact ⟨z, h1, rfl⟩
  refine ⟨h.bnd, fun j z hz => ?_, fun j t hj ht => ?_, fun j z hz => ?_, fun j z hz => ?_, fun j k z z' hjk hz hz' g => ?_⟩
  · rcases hget j z hz with ⟨rfl, rfl⟩ | ⟨h0, h1⟩
    · exact hc
    · exact hco j z h0 h1
  · rw [List.length_set] at hj
    rw [hf]; exact h.free j t hj ht
  · rcases hget j z hz with ⟨rfl, rfl⟩ | ⟨h0, h1⟩
    · exact ho
    · exact hoo j z h0 h1
  · obtain ⟨q, h1, h2⟩ := hsv j z hz
    rw [h2]; exact h.row j q h1
  · obtain ⟨q, h1, h2⟩ := hsv j z hz
    obtain ⟨q', h3, h4⟩ := hsv k z' hz'
    rw [h2, h4]; exact h.sep j k q q' hjk h1 h3 g
set_option maxRecDepth 100000 in
theorem SlotsM.below {lo hi b off B : Nat} {w w' : World} {ps : List SlotV} (h : SlotsM lo hi w b off ps) (hb : Below B w w') (hB : hi ≤ B) : SlotsM lo hi w' b off ps := by
  have hk : w'.heap[b]? = w.heap[b]? := hb.block b (by have := h.bnd; omega)
  exact ⟨h.bnd, fun j x hx => (h.cells j x hx).keep hk, fun j t hj ht => (frozen_keep hk).trans (h.free j t hj ht), fun j x hx => (h.own j x hx).below hb hB, h.row, h.sep⟩
set_option maxRecDepth 100000 in
theorem setL_cell {w : World} {b o t : Nat} {us : List Value} (h : atL w b o us) (ht : t < us.length) (u : Value) : atL (w.setCell ⟨b, o + t, none⟩ u) b o (us.set t u) := fun s v hs => by
  by_cases e : t = s
  · subst e
    rw [List.getElem?_set_self ht] at hs
    cases hs
    exact World.cell?_setCell_same w ⟨b, o + t, none⟩ u (h t _ (List.getElem?_eq_getElem ht))
  · rw [List.getElem?_set_ne e] at hs
    rw [World.cell?_setCell_other _ _ _ _ (fun he => e (by have := congrArg Addr.off he; simp at this; omega))]
    exact h s v hs
set_option maxRecDepth 100000 in
/-- a cell of element i stored anew, its reply as it was -/
theorem SlotsM.setCell {lo hi b off i t : Nat} {w : World} {ps : List SlotV} {x y : SlotV} {u : Value} (h : SlotsM lo hi w b off ps) (hx : ps[i]? = some x) (hs : sv y = sv x) (hr : y.1.2.2 = x.1.2.2) (ht : t < 3) (hy : sCells y = (sCells x).set t u) : SlotsM lo hi (w.setCell ⟨b, off + i * 3 + t, none⟩ u) b off (ps.set i y) := by
  refine h.put hx hs (by rw [hy]; exact setL_cell (h.cells i x hx) ht u) (fun j z hj hz => (h.cells j z hz).set_far (by show off + i * 3 + t < off + j * 3 ∨ off + j * 3 + 3 ≤ off + i * 3 + t; omega) u) (fun t => by simp) ?_ (fun j z hj hz => (h.own j z hz).far u (h.row j z hz))
  rw [hs, hr]
  exact (h.own i x hx).far u (h.row i x hx)
set_option maxRecDepth 100000 in
/-- its reply made anew in its own block -/
theorem SlotsM.reply {lo hi b off i : Nat} {w w' : World} {ps : List SlotV} {x : SlotV} {m : List Int} (h : SlotsM lo hi w b off ps) (hx : ps[i]? = some x) (hm : m.length = x.1.2.2.length) (hg : w.grownBy w' (Proofs.YtpeeagkfhdeagaaDoor.blk (sv x))) (hh : hi ≤ w.heap.size) (hn : nums .u8 lo hi w' (sv x) m) : SlotsM lo hi w' b off (ps.set i ((x.1.1, x.1.2.1, m), x.2)) := by
  have hk : w'.heap[b]? = w.heap[b]? := hg.block b (by have := h.bnd; omega) (fun e => h.row i x hx e.symm)
  have hs : sv (((x.1.1, x.1.2.1, m), x.2) : SlotV) = sv x := by unfold sv; simp only [hm]
  refine h.put hx hs ?_ (fun j z hj hz => (h.cells j z hz).keep hk) (fun t => frozen_keep hk) (by rw [hs]; exact hn) (fun j z hj hz => (h.own j z hz).apart hg hh fun g h1 h2 => h.sep j i z x hj hz hx g h1 h2)
  have hc : sCells (((x.1.1, x.1.2.1, m), x.2) : SlotV) = sCells x := by unfold sCells; simp only [hm]
  rw [hc]
  exact (h.cells i x hx).keep hk
end Go.Proofs.YtpeeagkfhdeagaaDoor
