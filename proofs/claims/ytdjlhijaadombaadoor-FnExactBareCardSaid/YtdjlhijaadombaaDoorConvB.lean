/- '[]byte(s)': a new slice that reads as the bytes of s; no conditions. -/
import Derived.Test.YtdjlhijaadombaaDoorNums
import Derived.Lib.ConvBytes
import Derived.Laws.AppendOwn
set_option linter.unusedVariables false
namespace Go.Proofs.YtdjlhijaadombaaDoor
open Go.ChangeShapes Go.WideShapes Go.ChangeAt Go.RowKit

/-- the bytes of a string as numbers -/
def bytesL (s : ByteArray) : List Int := s.data.toList.map fun c => (c.toNat : Int)
set_option maxRecDepth 100000 in
theorem bytesL_len (s : ByteArray) : (bytesL s).length = s.size := by simp [bytesL]
set_option maxRecDepth 100000 in
theorem bytesL_get (s : ByteArray) (j : Nat) : (bytesL s).getD j 0 = ((s.data.toList.getD j 0).toNat : Int) := by
  unfold bytesL
  rw [List.getD_eq_getElem?_getD, List.getD_eq_getElem?_getD, List.getElem?_map]
  cases s.data.toList[j]? <;> rfl
set_option maxRecDepth 100000 in
theorem bytesL_ok (s : ByteArray) : isBytes (bytesL s) := by
  intro z hz
  obtain ⟨c, _, rfl⟩ := List.mem_map.1 hz
  have := c.toNat_lt
  constructor <;> omega
set_option maxRecDepth 100000 in
theorem byteOf_back (s : ByteArray) : (bytesL s).map byteOf = s.data.toList := by
  unfold bytesL byteOf
  rw [List.map_map]
  conv => rhs; rw [← List.map_id s.data.toList]
  refine List.map_congr_left fun c _ => ?_
  simp
set_option maxRecDepth 100000 in
theorem bytesW_below (w : World) (e : TypeId) (s : ByteArray) : Below w.heap.size w (Lib.bytesWorld w e s) :=
  ⟨rfl, rfl, rfl, by rw [Lib.bytesWorld_size]; omega, fun k hk => Lib.bytesWorld_at_old w e s k hk⟩
set_option maxRecDepth 100000 in
theorem bytesW_nums (w : World) (e : TypeId) (s : ByteArray) : nums .u8 w.heap.size (w.heap.size + 1) (Lib.bytesWorld w e s) (.slice (some ⟨w.heap.size, 0, none⟩) s.size (grownCap w s.size 0 e)) (bytesL s) := by
  refine ⟨some ⟨w.heap.size, 0, none⟩, grownCap w s.size 0 e, by rw [bytesL_len], by rw [bytesL_len]; exact grownCap_ge _ _ _ _, fun j hj => ?_⟩
  rw [bytesL_len] at hj
  refine ⟨w.heap.size, 0, rfl, Nat.le_refl _, by omega, ?_, ?_⟩
  · rw [Nat.zero_add, Lib.bytesWorld_cell w e s j hj, bytesL_get]
  · have hsz : s.size ≤ (Lib.bytesCells w e s).size := by
      unfold Lib.bytesCells
      simp
    unfold World.frozen?
    rw [Lib.bytesWorld_at_new]
    simp
    omega
set_option maxRecDepth 100000 in
theorem bytesW_nums' (w : World) (e : TypeId) (s : ByteArray) (n : Nat) (hn : n = w.heap.size) : nums .u8 w.heap.size (w.heap.size + 1) (Lib.bytesWorld w e s) (.slice (some ⟨n, 0, none⟩) s.size (grownCap w s.size 0 e)) (bytesL s) := by
  subst hn
  exact bytesW_nums w e s
end Go.Proofs.YtdjlhijaadombaaDoor
