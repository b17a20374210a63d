/- Whole arrays inside a region that draws its order; a signer. -/
import Derived.Test.YtmilcknboaefkaaGreatDoorDgI
import Derived.Test.YtmilcknboaefkaaGreatDoorLate
set_option maxRecDepth 100000
namespace Go.Proofs.YtmilcknboaefkaaGreatDoor
open Go.RowKit

section
variable {P : Program}
theorem exec_load_ar {o : Oper} {ρ : Operand → Value} {w : World} (ty : TypeId) (x : Operand) (ho : o.op = .load ty x) (g : Nat) (hx : ρ x = .pointer (some ⟨g, 0, none⟩)) (t : TypeId) (k : IntKind) (xs : List Int) (e : TypeId) (n : Nat) (hg : Ar w g t k xs)
    (hu : (P.underlying ty, (P.info? ty).map (·.size)) = (some (.array n e), some n)) (hn : xs.length = n) :
    (execOp ρ o).run P w = .ok (.value (.agg (ic k xs).toArray)) w := by
  unfold execOp
  simp only [ho, hx, Instr.loadAt, Instr.sureAddr, Sem.run_bind, Sem.run_pure, Result.andThen_ok, run_loadVar_row w g t ty _ (0, 0) _ hg (size_of hu).1 rfl (by rw [(size_of hu).2]; simp [ic_len, hn])]
theorem exec_load_mid {o : Oper} {ρ : Operand → Value} {w : World} (ty : TypeId) (x : Operand) (ho : o.op = .load ty x) (b off : Nat) (hx : ρ x = .pointer (some ⟨b, off, none⟩)) (cs : List Value) (d : TypeDesc) (hc : w.rangeAt b off cs)
    (hu : P.underlying ty = some d) (hd : d.isRow = true) (hi : (P.info? ty).map (·.size) = some cs.length) :
    (execOp ρ o).run P w = .ok (.value (.agg cs.toArray)) w := by
  unfold execOp
  simp only [ho, hx, Instr.loadAt, Instr.sureAddr, Sem.run_bind, Sem.run_pure, Result.andThen_ok, run_loadVar_mid w b off ty cs d hc hu hd hi]
theorem exec_store_ar {o : Oper} {ρ : Operand → Value} {w : World} (ty : TypeId) (x y : Operand) (ho : o.op = .store ty x y) (g : Nat) (hx : ρ x = .pointer (some ⟨g, 0, none⟩)) (k : IntKind) (ys : List Int) (hy : ρ y = .agg (ic k ys).toArray)
    (t : TypeId) (xs : List Int) (hg : Ar w g t k xs) (hl : xs.length = ys.length) (hi : (P.info? ty).map (·.size) = some ys.length) :
    (execOp ρ o).run P w = .ok .skip (w.setRow g (ic k ys).toArray) := by
  unfold execOp
  simp only [ho, hx, hy, Instr.storeAt, Instr.sureAddr, Sem.run_bind, Sem.run_pure, Result.andThen_ok, run_storeVar_row w g t ty _ (ic k ys).toArray hg (by rw [hi]; simp [ic_len]) (by simp [ic_len, hl]) (ic_one k ys)]
theorem exec_build2 {o : Oper} {ρ : Operand → Value} {w : World} (t : TypeId) (x y : Operand) (ho : o.op = .build t #[(0, x), (1, y)]) (u v : Value) (hx : ρ x = u) (hy : ρ y = v) (cells : Array Value) (hb : P.built t [(0, u), (1, v)] = some cells) :
    (execOp ρ o).run P w = .ok (.value (.agg cells)) w := by
  unfold execOp
  have hr := run_build w t #[(0, u), (1, v)] cells hb
  simp only [ho, List.map_toArray, List.map_cons, List.map_nil, hx, hy, Sem.run_bind, hr, Result.andThen_ok, Sem.run_pure]
theorem Ar.row {w : World} {g : Nat} {t : TypeId} {k : IntKind} {xs ys : List Int} (h : Ar w g t k xs) : Ar (w.setRow g (ic k ys).toArray) g t k ys := setRow_heap w g _ _ t (0, 0) h
theorem Ar.mid {w : World} {g : Nat} {t : TypeId} {k : IntKind} {xs ys zs : List Int} (h : Ar w g t k (xs ++ ys ++ zs)) : w.rangeAt g xs.length (ic k ys) := fun j v hv => by
  have hj : j < ys.length := by
    rcases Nat.lt_or_ge j ys.length with q | q
    · exact q
    · rw [List.getElem?_eq_none (by simpa [ic] using q)] at hv; cases hv
  rw [h.cell (j := xs.length + j) (by simp; omega), ← hv]
  have e : (xs ++ ys ++ zs)[xs.length + j]? = ys[j]? := by rw [List.append_assoc, List.getElem?_append_right (by omega), Nat.add_sub_cancel_left, List.getElem?_append_left hj]
  simp only [ic, List.getD, e, List.getElem?_map, List.getElem?_eq_getElem hj, Option.getD_some, Option.map_some]
theorem results_struct {fn : Func} {p : Tmp} {ty : TypeId} (h : fn.results = #[.cell p ty]) (tmps : Array Value) (w : World) (g : Nat) (t : TypeId) (k : IntKind) (xs : List Int) (d : TypeDesc)
    (hp : tmps.getD p undef = .pointer (some ⟨g, 0, none⟩)) (hg : Ar w g t k xs) (hu : P.underlying ty = some d) (hd : (match d with | .struct _ | .array _ _ => true | _ => false) = true) (hn : (P.info? ty).map (·.size) = some xs.length) :
    (results fn tmps).run P w = .ok (.agg (ic k xs).toArray) w :=
  results_cell_row h tmps w g t _ (0, 0) d hp hg hu hd (by rw [hn]; simp [ic_len])
end

theorem Tryz.z51 : (Tryz.prog.info? 92).map (fun i => (i.zero, i.size)) = some (some (.agg (ic .u32 (List.replicate 16 0)).toArray), 16) := by kernel_rfl
theorem Tryz.i51 : (Tryz.prog.info? 92).map (·.size) = some 16 := by kernel_rfl
theorem list8 {l : List Int} (h : l.length = 8) : ∃ a b c d e f g i, l = [a, b, c, d, e, f, g, i] := by
  match l, h with
  | [a, b, c, d, e, f, g, i], _ => exact ⟨a, b, c, d, e, f, g, i, rfl⟩
theorem built_signer (xs ys : List Int) (hx : xs.length = 8) (hy : ys.length = 8) : Tryz.prog.built 92 [(0, .agg (ic .u32 xs).toArray), (1, .agg (ic .u32 ys).toArray)] = some (ic .u32 (xs ++ ys)).toArray := by
  obtain ⟨a, b, c, d, e, f, g, i, rfl⟩ := list8 hx
  obtain ⟨a', b', c', d', e', f', g', i', rfl⟩ := list8 hy
  kernel_rfl

def kroom (xs : List Int) : List Int := ov (List.replicate 64 0) (if 64 < xs.length then sha xs else xs)
def sIn (xs : List Int) : List Int := mix h0s (pb (kroom xs) 54 64)
def sOut (xs : List Int) : List Int := mix h0s (pb (kroom xs) 92 64)
theorem kroom_len (xs : List Int) : (kroom xs).length = 64 := by unfold kroom; rw [ov_len]; simp
theorem sIn_len (xs : List Int) : (sIn xs).length = 8 := mix_len _ _ rfl
theorem sOut_len (xs : List Int) : (sOut xs).length = 8 := mix_len _ _ rfl
theorem ov_bd {xs ys : List Int} (h : Bd xs) (k : Bd ys) : Bd (ov xs ys) := (k.take _).append (h.drop _)

end Go.Proofs.YtmilcknboaefkaaGreatDoor
