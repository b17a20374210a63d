/- SubsTables: the law's half, table, same. -/
import Derived.Test.YtgijofcnknehdaaDoorSuI
import Derived.Test.YtgijofcnknehdaaDoorSuH
namespace Go.Proofs.YtgijofcnknehdaaDoor
open Go.RowKit Go.Joins

/-- The events' names: four that go out, four that come in. -/
def evT : List ByteArray := [⟨#[111, 117, 116, 32, 115, 117, 98, 115, 99, 114, 105, 98, 101]⟩, ⟨#[111, 117, 116, 32, 117, 110, 115, 117, 98, 115, 99, 114, 105, 98, 101]⟩, ⟨#[111, 117, 116, 32, 115, 117, 98, 115, 99, 114, 105, 98, 101, 100]⟩, ⟨#[111, 117, 116, 32, 117, 110, 115, 117, 98, 115, 99, 114, 105, 98, 101, 100]⟩, ⟨#[105, 110, 32, 115, 117, 98, 115, 99, 114, 105, 98, 101]⟩, ⟨#[105, 110, 32, 117, 110, 115, 117, 98, 115, 99, 114, 105, 98, 101]⟩, ⟨#[105, 110, 32, 115, 117, 98, 115, 99, 114, 105, 98, 101, 100]⟩, ⟨#[105, 110, 32, 117, 110, 115, 117, 98, 115, 99, 114, 105, 98, 101, 100]⟩]
/-- RFC 6121's tables, by event. -/
def tbT : List (List Int) := [[1, (-1), 3, (-1), (-1), (-1), 7, (-1), (-1)], [(-1), 0, (-1), 2, 0, 2, (-1), 6, 6], [(-1), (-1), 6, 7, (-1), 8, (-1), (-1), (-1)], [(-1), (-1), 0, 1, (-1), 4, 0, 1, 4], [2, 3, (-1), (-1), 5, (-1), (-1), (-1), (-1)], [(-1), (-1), 0, 1, (-1), 4, 0, 1, 4], [(-1), 4, (-1), 5, (-1), (-1), (-1), 8, (-1)], [(-1), 0, (-1), 2, 0, 2, (-1), 6, 6]]
def ic (k : IntKind) (xs : List Int) : List Value := xs.map (Value.int k)

theorem table_0 (w : World) : Calls Tryd.prog 9 #[.string ⟨#[111, 117, 116, 32, 115, 117, 98, 115, 99, 114, 105, 98, 101]⟩] w fun e w' => e = .returned (.agg #[.int .i64 (1), .int .i64 (-1), .int .i64 (3), .int .i64 (-1), .int .i64 (-1), .int .i64 (-1), .int .i64 (7), .int .i64 (-1), .int .i64 (-1)]) ∧ Below w.heap.size w w' := by
  have hb := below1 w (.cells #[.int .i64 (1), .int .i64 (-1), .int .i64 (3), .int .i64 (-1), .int .i64 (-1), .int .i64 (-1), .int .i64 (7), .int .i64 (-1), .int .i64 (-1)] 33)
  go_enter Tryd.func9, Tryd.ntmps9
  go_wp2
  simp [bodyPost, results, Tryd.results9, go_sem]
  exact hb

theorem table_1 (w : World) : Calls Tryd.prog 9 #[.string ⟨#[111, 117, 116, 32, 117, 110, 115, 117, 98, 115, 99, 114, 105, 98, 101]⟩] w fun e w' => e = .returned (.agg #[.int .i64 (-1), .int .i64 (0), .int .i64 (-1), .int .i64 (2), .int .i64 (0), .int .i64 (2), .int .i64 (-1), .int .i64 (6), .int .i64 (6)]) ∧ Below w.heap.size w w' := by
  have hb := below1 w (.cells #[.int .i64 (-1), .int .i64 (0), .int .i64 (-1), .int .i64 (2), .int .i64 (0), .int .i64 (2), .int .i64 (-1), .int .i64 (6), .int .i64 (6)] 33)
  go_enter Tryd.func9, Tryd.ntmps9
  go_wp2
  simp [bodyPost, results, Tryd.results9, go_sem]
  exact hb

theorem table_2 (w : World) : Calls Tryd.prog 9 #[.string ⟨#[111, 117, 116, 32, 115, 117, 98, 115, 99, 114, 105, 98, 101, 100]⟩] w fun e w' => e = .returned (.agg #[.int .i64 (-1), .int .i64 (-1), .int .i64 (6), .int .i64 (7), .int .i64 (-1), .int .i64 (8), .int .i64 (-1), .int .i64 (-1), .int .i64 (-1)]) ∧ Below w.heap.size w w' := by
  have hb := below1 w (.cells #[.int .i64 (-1), .int .i64 (-1), .int .i64 (6), .int .i64 (7), .int .i64 (-1), .int .i64 (8), .int .i64 (-1), .int .i64 (-1), .int .i64 (-1)] 33)
  go_enter Tryd.func9, Tryd.ntmps9
  go_wp2
  simp [bodyPost, results, Tryd.results9, go_sem]
  exact hb

theorem table_3 (w : World) : Calls Tryd.prog 9 #[.string ⟨#[111, 117, 116, 32, 117, 110, 115, 117, 98, 115, 99, 114, 105, 98, 101, 100]⟩] w fun e w' => e = .returned (.agg #[.int .i64 (-1), .int .i64 (-1), .int .i64 (0), .int .i64 (1), .int .i64 (-1), .int .i64 (4), .int .i64 (0), .int .i64 (1), .int .i64 (4)]) ∧ Below w.heap.size w w' := by
  have hb := below1 w (.cells #[.int .i64 (-1), .int .i64 (-1), .int .i64 (0), .int .i64 (1), .int .i64 (-1), .int .i64 (4), .int .i64 (0), .int .i64 (1), .int .i64 (4)] 33)
  go_enter Tryd.func9, Tryd.ntmps9
  go_wp2
  simp [bodyPost, results, Tryd.results9, go_sem]
  exact hb

theorem table_4 (w : World) : Calls Tryd.prog 9 #[.string ⟨#[105, 110, 32, 115, 117, 98, 115, 99, 114, 105, 98, 101]⟩] w fun e w' => e = .returned (.agg #[.int .i64 (2), .int .i64 (3), .int .i64 (-1), .int .i64 (-1), .int .i64 (5), .int .i64 (-1), .int .i64 (-1), .int .i64 (-1), .int .i64 (-1)]) ∧ Below w.heap.size w w' := by
  have hb := below1 w (.cells #[.int .i64 (2), .int .i64 (3), .int .i64 (-1), .int .i64 (-1), .int .i64 (5), .int .i64 (-1), .int .i64 (-1), .int .i64 (-1), .int .i64 (-1)] 33)
  go_enter Tryd.func9, Tryd.ntmps9
  go_wp2
  simp [bodyPost, results, Tryd.results9, go_sem]
  exact hb

theorem table_5 (w : World) : Calls Tryd.prog 9 #[.string ⟨#[105, 110, 32, 117, 110, 115, 117, 98, 115, 99, 114, 105, 98, 101]⟩] w fun e w' => e = .returned (.agg #[.int .i64 (-1), .int .i64 (-1), .int .i64 (0), .int .i64 (1), .int .i64 (-1), .int .i64 (4), .int .i64 (0), .int .i64 (1), .int .i64 (4)]) ∧ Below w.heap.size w w' := by
  have hb := below1 w (.cells #[.int .i64 (-1), .int .i64 (-1), .int .i64 (0), .int .i64 (1), .int .i64 (-1), .int .i64 (4), .int .i64 (0), .int .i64 (1), .int .i64 (4)] 33)
  go_enter Tryd.func9, Tryd.ntmps9
  go_wp2
  simp [bodyPost, results, Tryd.results9, go_sem]
  exact hb

theorem table_6 (w : World) : Calls Tryd.prog 9 #[.string ⟨#[105, 110, 32, 115, 117, 98, 115, 99, 114, 105, 98, 101, 100]⟩] w fun e w' => e = .returned (.agg #[.int .i64 (-1), .int .i64 (4), .int .i64 (-1), .int .i64 (5), .int .i64 (-1), .int .i64 (-1), .int .i64 (-1), .int .i64 (8), .int .i64 (-1)]) ∧ Below w.heap.size w w' := by
  have hb := below1 w (.cells #[.int .i64 (-1), .int .i64 (4), .int .i64 (-1), .int .i64 (5), .int .i64 (-1), .int .i64 (-1), .int .i64 (-1), .int .i64 (8), .int .i64 (-1)] 33)
  go_enter Tryd.func9, Tryd.ntmps9
  go_wp2
  simp [bodyPost, results, Tryd.results9, go_sem]
  exact hb

theorem table_7 (w : World) : Calls Tryd.prog 9 #[.string ⟨#[105, 110, 32, 117, 110, 115, 117, 98, 115, 99, 114, 105, 98, 101, 100]⟩] w fun e w' => e = .returned (.agg #[.int .i64 (-1), .int .i64 (0), .int .i64 (-1), .int .i64 (2), .int .i64 (0), .int .i64 (2), .int .i64 (-1), .int .i64 (6), .int .i64 (6)]) ∧ Below w.heap.size w w' := by
  have hb := below1 w (.cells #[.int .i64 (-1), .int .i64 (0), .int .i64 (-1), .int .i64 (2), .int .i64 (0), .int .i64 (2), .int .i64 (-1), .int .i64 (6), .int .i64 (6)] 33)
  go_enter Tryd.func9, Tryd.ntmps9
  go_wp2
  simp [bodyPost, results, Tryd.results9, go_sem]
  exact hb

theorem table_any (k : Nat) (hk : k < 8) (w : World) : Calls Tryd.prog 9 #[.string (evT.getD k ⟨#[]⟩)] w fun e w' => e = .returned (.agg (ic .i64 (tbT.getD k [])).toArray) ∧ Below w.heap.size w w' := by
  rcases k with _ | _ | _ | _ | _ | _ | _ | _ | k
  · exact table_0 w
  · exact table_1 w
  · exact table_2 w
  · exact table_3 w
  · exact table_4 w
  · exact table_5 w
  · exact table_6 w
  · exact table_7 w
  · omega
theorem below_z4 (w : World) (a b c d : Obj) : Below w.heap.size w ((((w.alloc a).alloc b).alloc c).drew.alloc d) := ((((((Below.refl _ _).alloc (Nat.le_refl _) _).alloc (by simp) _).alloc (by simp; omega) _)).drew).alloc (by simp [World.drew]; omega) _
/-- The half of a state, with the numbers of its requests. -/
def hfS (s : Nat) (n m : Int) : Hf := ⟨[0, 1, 0, 1, 2, 2, 0, 1, 2].getD s 0, if [0, 1, 0, 1, 2, 2, 0, 1, 2].getD s (0 : Int) = 0 then 0 else n, [0, 0, 1, 1, 0, 1, 2, 2, 2].getD s 0, if [0, 0, 1, 1, 0, 1, 2, 2, 2].getD s (0 : Int) = 0 then 0 else m⟩

set_option maxHeartbeats 800000 in
theorem half_0 (n m : Int) (w : World) : Calls Tryd.prog 6 #[.int .i64 0, .int .u64 n, .int .u64 m] w fun e w' => e = .returned (hfv ⟨0, 0, 0, 0⟩) ∧ Below w.heap.size w w' := by
  unfold hfv hfc
  go_enter Tryd.func6, Tryd.ntmps6
  go_wp2
  go_region
  all_goals go_wp2
  all_goals simp [bodyPost, results, Tryd.results6, go_sem]
  all_goals exact below_z4 _ _ _ _ _

set_option maxHeartbeats 800000 in
theorem half_1 (n m : Int) (w : World) : Calls Tryd.prog 6 #[.int .i64 1, .int .u64 n, .int .u64 m] w fun e w' => e = .returned (hfv ⟨1, n, 0, 0⟩) ∧ Below w.heap.size w w' := by
  unfold hfv hfc
  go_enter Tryd.func6, Tryd.ntmps6
  go_wp2
  go_region
  all_goals go_wp2
  all_goals simp [bodyPost, results, Tryd.results6, go_sem]
  all_goals exact below_z4 _ _ _ _ _

set_option maxHeartbeats 800000 in
theorem half_2 (n m : Int) (w : World) : Calls Tryd.prog 6 #[.int .i64 2, .int .u64 n, .int .u64 m] w fun e w' => e = .returned (hfv ⟨0, 0, 1, m⟩) ∧ Below w.heap.size w w' := by
  unfold hfv hfc
  go_enter Tryd.func6, Tryd.ntmps6
  go_wp2
  go_region
  all_goals go_wp2
  all_goals simp [bodyPost, results, Tryd.results6, go_sem]
  all_goals exact below_z4 _ _ _ _ _

set_option maxHeartbeats 800000 in
theorem half_3 (n m : Int) (w : World) : Calls Tryd.prog 6 #[.int .i64 3, .int .u64 n, .int .u64 m] w fun e w' => e = .returned (hfv ⟨1, n, 1, m⟩) ∧ Below w.heap.size w w' := by
  unfold hfv hfc
  go_enter Tryd.func6, Tryd.ntmps6
  go_wp2
  go_region
  all_goals go_wp2
  all_goals simp [bodyPost, results, Tryd.results6, go_sem]
  all_goals exact below_z4 _ _ _ _ _

set_option maxHeartbeats 800000 in
theorem half_4 (n m : Int) (w : World) : Calls Tryd.prog 6 #[.int .i64 4, .int .u64 n, .int .u64 m] w fun e w' => e = .returned (hfv ⟨2, n, 0, 0⟩) ∧ Below w.heap.size w w' := by
  unfold hfv hfc
  go_enter Tryd.func6, Tryd.ntmps6
  go_wp2
  go_region
  all_goals go_wp2
  all_goals simp [bodyPost, results, Tryd.results6, go_sem]
  all_goals exact below_z4 _ _ _ _ _

set_option maxHeartbeats 800000 in
theorem half_5 (n m : Int) (w : World) : Calls Tryd.prog 6 #[.int .i64 5, .int .u64 n, .int .u64 m] w fun e w' => e = .returned (hfv ⟨2, n, 1, m⟩) ∧ Below w.heap.size w w' := by
  unfold hfv hfc
  go_enter Tryd.func6, Tryd.ntmps6
  go_wp2
  go_region
  all_goals go_wp2
  all_goals simp [bodyPost, results, Tryd.results6, go_sem]
  all_goals exact below_z4 _ _ _ _ _

set_option maxHeartbeats 800000 in
theorem half_6 (n m : Int) (w : World) : Calls Tryd.prog 6 #[.int .i64 6, .int .u64 n, .int .u64 m] w fun e w' => e = .returned (hfv ⟨0, 0, 2, m⟩) ∧ Below w.heap.size w w' := by
  unfold hfv hfc
  go_enter Tryd.func6, Tryd.ntmps6
  go_wp2
  go_region
  all_goals go_wp2
  all_goals simp [bodyPost, results, Tryd.results6, go_sem]
  all_goals exact below_z4 _ _ _ _ _

set_option maxHeartbeats 800000 in
theorem half_7 (n m : Int) (w : World) : Calls Tryd.prog 6 #[.int .i64 7, .int .u64 n, .int .u64 m] w fun e w' => e = .returned (hfv ⟨1, n, 2, m⟩) ∧ Below w.heap.size w w' := by
  unfold hfv hfc
  go_enter Tryd.func6, Tryd.ntmps6
  go_wp2
  go_region
  all_goals go_wp2
  all_goals simp [bodyPost, results, Tryd.results6, go_sem]
  all_goals exact below_z4 _ _ _ _ _

set_option maxHeartbeats 800000 in
theorem half_8 (n m : Int) (w : World) : Calls Tryd.prog 6 #[.int .i64 8, .int .u64 n, .int .u64 m] w fun e w' => e = .returned (hfv ⟨2, n, 2, m⟩) ∧ Below w.heap.size w w' := by
  unfold hfv hfc
  go_enter Tryd.func6, Tryd.ntmps6
  go_wp2
  go_region
  all_goals go_wp2
  all_goals simp [bodyPost, results, Tryd.results6, go_sem]
  all_goals exact below_z4 _ _ _ _ _

theorem half_any (s : Nat) (hs : s < 9) (n m : Int) (w : World) : Calls Tryd.prog 6 #[.int .i64 s, .int .u64 n, .int .u64 m] w fun e w' => e = .returned (hfv (hfS s n m)) ∧ Below w.heap.size w w' := by
  rcases s with _ | _ | _ | _ | _ | _ | _ | _ | _ | s
  · exact half_0 n m w
  · exact half_1 n m w
  · exact half_2 n m w
  · exact half_3 n m w
  · exact half_4 n m w
  · exact half_5 n m w
  · exact half_6 n m w
  · exact half_7 n m w
  · exact half_8 n m w
  · omega
set_option maxHeartbeats 800000 in
theorem same_yes (h : Hf) (w : World) : Calls Tryd.prog 10 #[hfv h, hfv h] w fun e w' => e = .returned (.bool true) ∧ Below w.heap.size w w' := by
  unfold hfv hfc
  go_enter Tryd.func10, Tryd.ntmps10
  go_wp2
  simp [bodyPost, results, Tryd.results10, go_sem]
  exact below2 _ _ _
end Go.Proofs.YtgijofcnknehdaaDoor
