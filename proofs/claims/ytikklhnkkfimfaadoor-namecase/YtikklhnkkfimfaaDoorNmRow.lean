/- Bytes in new memory, to which is appended. -/
import Derived.Test.YtikklhnkkfimfaaDoorNmSmall
import Derived.Deep.AppendSrc
import Derived.Deep.MidRow
import Derived.Lib.SlBuf
import Derived.Below
namespace Go.Proofs.YtikklhnkkfimfaaDoor
open Go.RowKit

theorem infoByte : (Tryd.prog.info? 5).map (fun i => (i.zero, i.size, i.bytes)) = some (some (.int .u8 0), 1, 1) := by kernel_rfl

def bv (b : UInt8) : Value := .int .u8 b.toNat
def bvs (l : List UInt8) : List Value := l.map bv

/-- The slice v: the bytes l, in a block from B on, with room that may be written. -/
def Row (w : World) (B : Nat) (v : Value) (l : List UInt8) : Prop :=
  ∃ g c, v = .slice (some ⟨g, 0, none⟩) l.length c ∧ B ≤ g ∧ g < w.heap.size ∧ l.length ≤ c ∧ c ≤ maxLen ∧
    (∀ j, j < c → (w.cell? ⟨g, j, none⟩).isSome = true) ∧ (∀ j, j < c → w.frozen? ⟨g, j, none⟩ = false) ∧ (∀ j (h : j < l.length), w.cell? ⟨g, j, none⟩ = some (bv l[j]))

theorem add_flat (b off j : Nat) : (⟨b, off, none⟩ : Addr).add j = ⟨b, off + j, none⟩ := by unfold Addr.add; split <;> simp_all

/-- '[]byte(s)'. -/
theorem row_conv (s : ByteArray) (w : World) (hs : s.size ≤ 1000000) : ∃ v w', (convert 9 43 (.string s)).run Tryd.prog w = .ok v w' ∧ Row w' w.heap.size v s.data.toList ∧ Below w.heap.size w w' := by
  refine ⟨_, _, run_bytes_of_string w 9 43 5 s Tryd.underlying9 Tryd.underlying43 Tryd.underlying5, ?_, ((Below.refl _ _).drew).alloc (Nat.le_refl _) _⟩
  have hl : s.data.toList.length = s.size := by simp
  have hge := grownCap_ge w s.size 0 5
  have hsz : (bytesRow s (grownCap w s.size 0 5)).size = grownCap w s.size 0 5 := by
    simp [bytesRow]
    have : s.data.size = s.size := rfl
    omega
  refine ⟨w.heap.size, _, by rw [hl], Nat.le_refl _, by simp, by rw [hl]; exact hge, grownCap_le_maxLen _ _ _ _ (by unfold maxLen; omega), ?_, ?_, ?_⟩
  · intro j hj
    rw [show w.heap.size = w.drew.heap.size from rfl, World.cell?_alloc_mark]
    rw [← hsz] at hj
    simp [hj]
  · intro j hj
    rw [show w.heap.size = w.drew.heap.size from rfl, World.frozen?_alloc_mark, hsz]
    simp; omega
  · intro j hj
    have hj' : j < s.data.size := by simpa using hj
    rw [show w.heap.size = w.drew.heap.size from rfl, World.cell?_alloc_mark, bytesRow_at s _ j hj']
    simp [bv]

theorem bvs_len (l : List UInt8) : (bvs l).length = l.length := by simp [bvs]
theorem bvs_append (a b : List UInt8) : bvs (a ++ b) = bvs a ++ bvs b := by simp [bvs]

theorem Row.carry {w w' : World} {B : Nat} {v : Value} {l : List UInt8} (h : Row w B v l) (hb : Below w.heap.size w w') : Row w' B v l := by
  obtain ⟨g, c, hv, hB, hg, hc, hm, h1, h2, h3⟩ := h
  have hk : ∀ j, w'.cell? ⟨g, j, none⟩ = w.cell? ⟨g, j, none⟩ := fun j => hb.cell (p := ⟨g, j, none⟩) hg
  have hf : ∀ j, w'.frozen? ⟨g, j, none⟩ = w.frozen? ⟨g, j, none⟩ := fun j => by
    unfold World.frozen?
    rw [show (⟨g, j, none⟩ : Addr).block = g from rfl, hb.block g hg]
  exact ⟨g, c, hv, hB, Nat.lt_of_lt_of_le hg hb.size, hc, hm, fun j hj => by rw [hk]; exact h1 j hj, fun j hj => by rw [hf]; exact h2 j hj, fun j hj => by rw [hk]; exact h3 j hj⟩

/-- append of bytes. -/
theorem row_append {w : World} {B : Nat} {v : Value} {l m : List UInt8} (h : Row w B v l) (tx ty : TypeId) (x : Value) (hs : Src Tryd.prog 1 tx x m.length (bvs m) w) (hb : l.length + m.length ≤ 1000000) (hBw : B ≤ w.heap.size) :
    ∃ v' w', (Builtin.append_ #[43, tx] ty #[v, x]).run Tryd.prog w = .ok v' w' ∧ Row w' B v' (l ++ m) ∧ Below B w w' := by
  obtain ⟨i0, hi, hz0, hz1, hz2⟩ := info_parts infoByte
  obtain ⟨g, c, rfl, hB, hg, hc, hm, h1, h2, h3⟩ := h
  have hs' : Src Tryd.prog i0.size tx x m.length (bvs m) w := by rw [hz1]; exact hs
  by_cases hroom : l.length + m.length ≤ c
  · have hr := run_append_room_src w 43 tx ty 5 i0 Tryd.underlying43 hi g 0 l.length c x m.length (bvs m) hs' hroom
      (fun j hj => by rw [bvs_len] at hj; rw [hz1]; exact h1 _ (by omega)) (fun j hj => by rw [bvs_len] at hj; rw [hz1]; exact h2 _ (by omega))
    rw [hz1, Nat.mul_one, Nat.zero_add] at hr
    refine ⟨_, _, hr, ⟨g, c, by rw [List.length_append], hB, ?_, by rw [List.length_append]; exact hroom, hm, ?_, ?_, ?_⟩, Lib.below_setCells g hB (bvs m) l.length (Below.refl _ _)⟩
    · exact Nat.lt_of_lt_of_le hg (Lib.below_setCells g (B := 0) (Nat.zero_le _) (bvs m) l.length (Below.refl _ _)).size
    · exact fun j hj => World.isSome_setCells g (bvs m) l.length w _ (h1 j hj)
    · exact fun j hj => by rw [World.frozen?_setCells]; exact h2 j hj
    · intro j hj
      rw [List.length_append] at hj
      by_cases hjl : j < l.length
      · rw [World.cell?_setCells_out g (bvs m) l.length w _ (fun _ _ => .inl hjl), h3 j hjl]
        simp [List.getElem_append_left hjl]
      · have hin := World.cell?_setCells_in g (bvs m) l.length w (fun k hk => by rw [bvs_len] at hk; exact h1 _ (by omega)) (j - l.length) (by rw [bvs_len]; omega)
        rw [show l.length + (j - l.length) = j by omega] at hin
        rw [hin]
        simp [bvs, List.getElem_append_right (Nat.le_of_not_lt hjl)]
  · have hold : (Builtin.firstCells i0.size l.length (.slice (some ⟨g, 0, none⟩) l.length c)).run Tryd.prog w.drew = .ok (bvs l).toArray w.drew := by
      rw [hz1]
      refine run_firstCells_some w.drew 1 l.length ⟨g, 0, none⟩ l.length c (bvs l) (by rw [bvs_len, Nat.mul_one]) fun j u hj => ?_
      have hjl : j < l.length := by
        rcases Nat.lt_or_ge j l.length with q | q
        · exact q
        · rw [List.getElem?_eq_none (by rw [bvs_len]; exact q)] at hj; cases hj
      rw [add_flat, Nat.zero_add]
      have := h3 j hjl
      simp [bvs, List.getElem?_eq_getElem hjl] at hj
      rw [← hj]
      simpa using this
    have hr := run_append_grow_src w 43 tx ty 5 i0 (.int .u8 0) Tryd.underlying43 hi hz0 (some ⟨g, 0, none⟩) l.length c (bvs l) hold x m.length (bvs m) hs' (by omega) (by omega)
      (by rw [hz2]; exact growslice_fits (by omega) (by omega))
    have hge := grownCap_ge w (l.length + m.length) c 5
    refine ⟨_, _, hr, ⟨w.heap.size, _, by rw [List.length_append], hBw, by simp, by rw [List.length_append]; exact hge, grownCap_le_maxLen _ _ _ _ (by unfold maxLen; omega), ?_, ?_, ?_⟩, ((Below.refl _ _).drew).alloc (by exact hBw) _⟩
    · intro j hj
      rw [show w.heap.size = w.drew.heap.size from rfl, World.cell?_alloc_mark]
      have hsz : ((bvs l ++ bvs m).toArray ++ Builtin.zeroCells (Value.int .u8 0).cells (grownCap w (l.length + m.length) c 5 - (l.length + m.length))).size = grownCap w (l.length + m.length) c 5 := by
        simp only [Array.size_append, List.size_toArray, List.length_append, bvs_len, size_zeroCells]
        simp [Value.cells]
        omega
      rw [← hsz] at hj
      rw [Array.getElem?_eq_getElem hj]; rfl
    · intro j _
      exact World.frozen?_alloc_new w.drew _ _ j
    · intro j hj
      rw [show w.heap.size = w.drew.heap.size from rfl, World.cell?_alloc_mark, Array.getElem?_append_left (by simpa [bvs] using hj), ← bvs_append, List.getElem?_toArray]
      unfold bvs
      rw [List.getElem?_map, List.getElem?_eq_getElem hj]
      rfl

theorem row_wp {w : World} {ops : Array Oper} {rest : List Oper} {o : Oper} {a : Act} {Q : Exit → Act → World → Prop} (hgd : o.guard = none) (s x : Operand) (tx : TypeId)
    (ho : o.op = .call { callee := .builtin .append, args := #[s, x], argTypes := #[43, tx] })
    (B : Nat) (v : Value) (l m : List UInt8) (hs : a.eval s = v) (hR : Row w B v l) (xv : Value) (hx : a.eval x = xv) (hS : Src Tryd.prog 1 tx xv m.length (bvs m) w) (hb : l.length + m.length ≤ 1000000) (hBw : B ≤ w.heap.size)
    (h : ∀ v' w', Row w' B v' (l ++ m) → Below B w w' → wpList Tryd.prog ops Q rest (a.put o.dst v') w') : wpList Tryd.prog ops Q (o :: rest) a w := by
  refine wpList_plain hgd fun K hK => ?_
  obtain ⟨v', w', hr, h2, h3⟩ := row_append hR tx o.type xv hS hb hBw
  unfold Oper.wp execOp
  simp only [ho, resolve, invoke, builtin, Sem.run_bind, Sem.run_pure, Result.andThen_ok, List.map_toArray, List.map_cons, List.map_nil, hs, hx, hr]
  exact hK _ _ (h v' w' h2 h3)
end Go.Proofs.YtikklhnkkfimfaaDoor
