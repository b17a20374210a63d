/- Copies of bytes; wakes. -/
import Derived.Test.YtiidjdedeenijaaDoorDgH
import Derived.Test.YtiidjdedeenijaaDoorB6A
import Derived.Lib.SlBytesConst
import Derived.Test.YtiidjdedeenijaaDoorLate
set_option maxRecDepth 100000
namespace Go.Proofs.YtiidjdedeenijaaDoor
open Go.RowKit

theorem sha_none : (sha []).getD 0 0 = 227 ∧ (sha []).getD 31 0 = 85 := by decide +kernel

/-- A new block of bytes, read. -/
theorem rd_row {w : World} {g : Nat} {t : TypeId} {xs : List Int} (h : Ar w g t .u8 xs) (hb : Bd xs) (hl : xs.length ≤ maxLen) : Rd w (some ⟨g, 0, none⟩) xs.length xs.length xs :=
  ⟨rfl, Nat.le_refl _, hl, (fun e => by cases e), hb, fun ad had j hj => by cases had; rw [add_flat, Nat.zero_add]; exact h.cell hj⟩

set_option maxHeartbeats 800000 in
theorem twin_any (a : Option Addr) (n c : Nat) (xs : List Int) (most : Nat) (w : World) (hR : Rd w a n c xs) (hm : most ≤ 100000) :
    Calls Tryd.prog 8 #[.slice a n c, .int .i64 most] w fun e w' => ∃ v, e = .returned v ∧ w'.ownsRow w.heap.size 5 1 v (xs.take most).length (bc (xs.take most)) ∧ Below w.heap.size w w' := by
  have hl := hR.len
  have hcp := hR.cap
  have hmx : c ≤ 9223372036854775807 := hR.most
  by_cases hn : (most : Int) < (n : Int)
  · have hlt : (xs.take most).length = most := by rw [List.length_take]; omega
    rw [hlt]
    go_enter Tryd.func8, Tryd.ntmps8
    go_wp2_with (at_builtin; refine wp_app0K rfl _ _ rfl rfl a most c (xs.take most) rfl (hR.takeK (by omega)) (by omega) ?_; intro v' w1 hown1 hb1 _)
    go_ret
    exact ⟨_, rfl, hown1, hb1⟩
  · have hlt : xs.take most = xs := List.take_of_length_le (by omega)
    rw [hlt, hl]
    go_enter Tryd.func8, Tryd.ntmps8
    go_wp2_with (at_builtin; refine wp_app0K rfl _ _ rfl rfl a n c xs rfl hR (by omega) ?_; intro v' w1 hown1 hb1 _)
    go_ret
    exact ⟨_, rfl, hown1, hb1⟩

theorem below_drewN {B : Nat} {w w' : World} (h : Below B w w') (n : Nat) : Below B w (w'.drewN n) := ⟨h.os, h.tape, h.output, h.size, h.block⟩
theorem Lib_conv2 (w : World) (O : Obj) (C : Array Value) (n c : Nat) : (convert 22 22 (.slice (some ⟨w.heap.size + 1, 0, none⟩) n c)).run Tryd.prog ((w.alloc O).alloc (.cells C 5)) = .ok (.slice (some ⟨w.heap.size + 1, 0, none⟩) n c) ((w.alloc O).alloc (.cells C 5 (C.size, C.size + 1))) := by
  have := Lib.run_convert_bytes_const (P := Tryd.prog) (w.alloc O) 22 5 C n c Tryd.underlying22 Tryd.underlying5
  rw [World.size_alloc] at this
  exact this
/-- Own bytes that are not empty: their block. -/
theorem New.flat {w w' : World} {a : Option Addr} {n c : Nat} {xs : List Int} (h : New w w' (.slice a n c) xs) (hn : 0 < n) : ∃ g, a = some ⟨g, 0, none⟩ ∧ w.heap.size ≤ g ∧ ∀ j, w'.frozen? ⟨g, j, none⟩ = false := by
  rcases h.1.2 with ⟨h1, _⟩ | ⟨g, cap, cur, hv, hg, hh, _⟩
  · cases h1; omega
  · cases hv; exact ⟨g, rfl, hg, fun j => frozen_of_row w' g j cur _ hh⟩
/-- A byte written. -/
theorem Rd.setAt {w : World} {g n c : Nat} {xs : List Int} (h : Rd w (some ⟨g, 0, none⟩) n c xs) {k : Nat} (hk : k < n) {v : Int} (h0 : 0 ≤ v) (h1 : v ≤ 255) : Rd (w.setCell ⟨g, k, none⟩ (.int .u8 v)) (some ⟨g, 0, none⟩) n c (xs.set k v) := by
  refine ⟨by rw [List.length_set]; exact h.len, h.cap, h.most, h.nil, h.bytes.set k h0 h1, fun ad had j hj => ?_⟩
  cases had
  have hl := h.len
  have hc := h.cells _ rfl j hj
  rw [add_flat, Nat.zero_add] at hc ⊢
  by_cases e : k = j
  · subst e
    rw [World.cell?_setCell_same _ _ _ hc]
    simp [List.getD, show k < xs.length by omega]
  · rw [World.cell?_setCell_other _ _ _ _ (fun e' => e (by injection e')), hc]
    simp [List.getD, e]

end Go.Proofs.YtiidjdedeenijaaDoor

/- Whole arrays inside a region that draws its order; a signer. -/
set_option maxRecDepth 100000
namespace Go.Proofs.YtiidjdedeenijaaDoor
open Go.RowKit

section
variable {P : Program}
theorem exec_load_ar {o : Oper} {ρ : Operand → Value} {w : World} (ty : TypeId) (x : Operand) (ho : o.op = .load ty x) (g : Nat) (hx : ρ x = .pointer (some ⟨g, 0, none⟩)) (t : TypeId) (k : IntKind) (xs : List Int) (e : TypeId) (n : Nat) (hg : Ar w g t k xs)
    (hu : (P.underlying ty, (P.info? ty).map (·.size)) = (some (.array n e), some n)) (hn : xs.length = n) :
    (execOp ρ o).run P w = .ok (.value (.agg (ic k xs).toArray)) w := by
  unfold execOp
  simp only [ho, hx, Instr.loadAt, Instr.sureAddr, Sem.run_bind, Sem.run_pure, Result.andThen_ok, run_loadVar_row w g t ty _ (0, 0) _ hg (size_of hu).1 rfl (by rw [(size_of hu).2]; simp [ic_len, hn])]
theorem exec_load_mid {o : Oper} {ρ : Operand → Value} {w : World} (ty : TypeId) (x : Operand) (ho : o.op = .load ty x) (b off : Nat) (hx : ρ x = .pointer (some ⟨b, off, none⟩)) (cs : List Value) (d : TypeDesc) (hc : w.rangeAt b off cs)
    (hu : P.underlying ty = some d) (hd : d.isRow = true) (hi : (P.info? ty).map (·.size) = some cs.length) :
    (execOp ρ o).run P w = .ok (.value (.agg cs.toArray)) w := by
  unfold execOp
  simp only [ho, hx, Instr.loadAt, Instr.sureAddr, Sem.run_bind, Sem.run_pure, Result.andThen_ok, run_loadVar_mid w b off ty cs d hc hu hd hi]
theorem exec_store_ar {o : Oper} {ρ : Operand → Value} {w : World} (ty : TypeId) (x y : Operand) (ho : o.op = .store ty x y) (g : Nat) (hx : ρ x = .pointer (some ⟨g, 0, none⟩)) (k : IntKind) (ys : List Int) (hy : ρ y = .agg (ic k ys).toArray)
    (t : TypeId) (xs : List Int) (hg : Ar w g t k xs) (hl : xs.length = ys.length) (hi : (P.info? ty).map (·.size) = some ys.length) :
    (execOp ρ o).run P w = .ok .skip (w.setRow g (ic k ys).toArray) := by
  unfold execOp
  simp only [ho, hx, hy, Instr.storeAt, Instr.sureAddr, Sem.run_bind, Sem.run_pure, Result.andThen_ok, run_storeVar_row w g t ty _ (ic k ys).toArray hg (by rw [hi]; simp [ic_len]) (by simp [ic_len, hl]) (ic_one k ys)]
theorem exec_build2 {o : Oper} {ρ : Operand → Value} {w : World} (t : TypeId) (x y : Operand) (ho : o.op = .build t #[(0, x), (1, y)]) (u v : Value) (hx : ρ x = u) (hy : ρ y = v) (cells : Array Value) (hb : P.built t [(0, u), (1, v)] = some cells) :
    (execOp ρ o).run P w = .ok (.value (.agg cells)) w := by
  unfold execOp
  have hr := run_build w t #[(0, u), (1, v)] cells hb
  simp only [ho, List.map_toArray, List.map_cons, List.map_nil, hx, hy, Sem.run_bind, hr, Result.andThen_ok, Sem.run_pure]
theorem Ar.row {w : World} {g : Nat} {t : TypeId} {k : IntKind} {xs ys : List Int} (h : Ar w g t k xs) : Ar (w.setRow g (ic k ys).toArray) g t k ys := setRow_heap w g _ _ t (0, 0) h
theorem Ar.mid {w : World} {g : Nat} {t : TypeId} {k : IntKind} {xs ys zs : List Int} (h : Ar w g t k (xs ++ ys ++ zs)) : w.rangeAt g xs.length (ic k ys) := fun j v hv => by
  have hj : j < ys.length := by
    rcases Nat.lt_or_ge j ys.length with q | q
    · exact q
    · rw [List.getElem?_eq_none (by simpa [ic] using q)] at hv; cases hv
  rw [h.cell (j := xs.length + j) (by simp; omega), ← hv]
  have e : (xs ++ ys ++ zs)[xs.length + j]? = ys[j]? := by rw [List.append_assoc, List.getElem?_append_right (by omega), Nat.add_sub_cancel_left, List.getElem?_append_left hj]
  simp only [ic, List.getD, e, List.getElem?_map, List.getElem?_eq_getElem hj, Option.getD_some, Option.map_some]
theorem results_struct {fn : Func} {p : Tmp} {ty : TypeId} (h : fn.results = #[.cell p ty]) (tmps : Array Value) (w : World) (g : Nat) (t : TypeId) (k : IntKind) (xs : List Int) (d : TypeDesc)
    (hp : tmps.getD p undef = .pointer (some ⟨g, 0, none⟩)) (hg : Ar w g t k xs) (hu : P.underlying ty = some d) (hd : (match d with | .struct _ | .array _ _ => true | _ => false) = true) (hn : (P.info? ty).map (·.size) = some xs.length) :
    (results fn tmps).run P w = .ok (.agg (ic k xs).toArray) w :=
  results_cell_row h tmps w g t _ (0, 0) d hp hg hu hd (by rw [hn]; simp [ic_len])
end

theorem Tryd.z51 : (Tryd.prog.info? 139).map (fun i => (i.zero, i.size)) = some (some (.agg (ic .u32 (List.replicate 16 0)).toArray), 16) := by kernel_rfl
theorem Tryd.i51 : (Tryd.prog.info? 139).map (·.size) = some 16 := by kernel_rfl
theorem list8 {l : List Int} (h : l.length = 8) : ∃ a b c d e f g i, l = [a, b, c, d, e, f, g, i] := by
  match l, h with
  | [a, b, c, d, e, f, g, i], _ => exact ⟨a, b, c, d, e, f, g, i, rfl⟩
theorem built_signer (xs ys : List Int) (hx : xs.length = 8) (hy : ys.length = 8) : Tryd.prog.built 139 [(0, .agg (ic .u32 xs).toArray), (1, .agg (ic .u32 ys).toArray)] = some (ic .u32 (xs ++ ys)).toArray := by
  obtain ⟨a, b, c, d, e, f, g, i, rfl⟩ := list8 hx
  obtain ⟨a', b', c', d', e', f', g', i', rfl⟩ := list8 hy
  kernel_rfl

def kroom (xs : List Int) : List Int := ov (List.replicate 64 0) (if 64 < xs.length then sha xs else xs)
def sIn (xs : List Int) : List Int := mix h0s (pb (kroom xs) 54 64)
def sOut (xs : List Int) : List Int := mix h0s (pb (kroom xs) 92 64)
theorem kroom_len (xs : List Int) : (kroom xs).length = 64 := by unfold kroom; rw [ov_len]; simp
theorem sIn_len (xs : List Int) : (sIn xs).length = 8 := mix_len _ _ rfl
theorem sOut_len (xs : List Int) : (sOut xs).length = 8 := mix_len _ _ rfl
theorem ov_bd {xs ys : List Int} (h : Bd xs) (k : Bd ys) : Bd (ov xs ys) := (k.take _).append (h.drop _)

end Go.Proofs.YtiidjdedeenijaaDoor
