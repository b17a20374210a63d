/- What FrameMost leans on: made bytes, an append at its run, payloads cut at a bound. -/
import Derived.Test.YtmpoddgmkneffaaFrCutP
import Derived.Test.YtmpoddgmkneffaaFrPlan
import Derived.Laws.OwnMore
namespace Go.Proofs.Ytmpoddgmkneffaa
open Go.RowKit Go.Shelf

def zer (n : Nat) : List Int := List.replicate n 0
theorem zer_len (n : Nat) : (zer n).length = n := by simp [zer]
theorem zer_bd (n : Nat) : Bd (zer n) := by
  intro x hx
  have := List.eq_of_mem_replicate hx
  omega
theorem made_zer (n : Nat) : (madeCells (Value.int .u8 0).cells (n * 1)).toList = bc (zer n) := by
  unfold madeCells bc zer
  rw [Nat.mul_one, List.map_replicate]
  have h : ∀ i, (Value.int .u8 0).cells[i % (Value.int .u8 0).cells.size]! = Value.int .u8 0 := by
    intro i
    have : (Value.int .u8 0).cells = #[Value.int .u8 0] := rfl
    rw [this]
    simp [Nat.mod_one]
  simp only [h]
  apply List.ext_getElem
  · simp
  · intro i h1 h2
    simp

/-- make([]byte, n). -/
theorem run_mk (w : World) (n : Nat) (hn : n ≤ 1000000) : ∃ w', (Instr.makeSlice 31 (.int .i64 n) (.int .i64 n)).run Try.prog w = .ok (.slice (some ⟨w.heap.size, 0, none⟩) n n) w' ∧ Rd w' (some ⟨w.heap.size, 0, none⟩) n n (zer n) ∧ w.grownBy w' none := by
  obtain ⟨i0, hi, hz0, hz1, hz2⟩ := info_parts Try.info5
  obtain ⟨w', h1, h2, h3⟩ := run_make_full w w.heap.size 31 5 i0 (.int .u8 0) 1 Try.underlying31 hi hz0 hz1 .i64 .i64 n (by rw [hz2]; omega) (by unfold maxLen; omega) (Nat.le_refl _)
  rw [made_zer] at h2
  obtain ⟨a, c, hv, hr⟩ := Rd.ofOwn h2 (zer_bd n)
  cases hv
  exact ⟨w', h1, hr, h3⟩

/-- append([]byte{}, x...), at its run: g the empty slice's block. -/
theorem run_app (w : World) (ty : TypeId) (g : Nat) (hg : w.heap[g]? = some (.cells #[] 5 (0, 0))) (ab : Option Addr) (nb cb : Nat) (ys : List Int) (hR : Rd w ab nb cb ys) (hn : nb ≤ 1000000) :
    ∃ a' c' w', (Builtin.append_ #[31, 31] ty #[.slice (some ⟨g, 0, none⟩) 0 0, .slice ab nb cb]).run Try.prog w = .ok (.slice a' nb c') w' ∧ Rd w' a' nb c' ys ∧ w.grownBy w' (some g) := by
  obtain ⟨i0, hi, hz0, hz1, hz2⟩ := info_parts Try.info5
  have hown : w.ownsRow 0 5 1 (.slice (some ⟨g, 0, none⟩) 0 0) 0 (bc []) := ⟨rfl, .inr ⟨g, 0, #[], rfl, Nat.zero_le _, hg, Nat.le_refl _, by unfold maxLen; omega, rfl, rfl⟩⟩
  cases ab with
  | none =>
    obtain ⟨rfl, rfl⟩ := rd_none hR rfl
    have hys : ys = [] := List.eq_nil_of_length_eq_zero hR.len
    subst hys
    exact ⟨_, _, w, run_append_owned_none w 0 31 ty 5 i0 1 Try.underlying31 hi _ 0 (bc []) hown, ⟨rfl, Nat.le_refl _, by unfold maxLen; omega, (fun e => by cases e), Bd.nil, fun _ _ j hj => by omega⟩, World.grownBy.refl _ _⟩
  | some ad =>
    obtain ⟨v', w', hrun, h2, h3, _⟩ := run_append_own (P := Try.prog) w 0 31 ty 5 i0 (.int .u8 0) 1 1 Try.underlying31 hi hz0 hz1 hz2 rfl (by decide) _ 0 (bc []) hown ad nb cb (bc ys) (by rw [bc_len, hR.len]; omega) (hR.news rfl) (bc_one ys) (by unfold maxLen; omega) (by omega) (Nat.zero_le _)
    rw [← bc_append, Nat.zero_add, List.nil_append] at h2
    obtain ⟨a', c', rfl, hr⟩ := Rd.ofOwn h2 hR.bytes
    exact ⟨a', c', w', hrun, hr, h3⟩

theorem run_app_op {w w' : World} {o : Oper} {a : Act} {s x : Operand} {v u v' : Value} (ho : o.op = .call { callee := .builtin .append, args := #[s, x], argTypes := #[31, 31] }) (hs : a.eval s = v) (hx : a.eval x = u)
    (hrun : (Builtin.append_ #[31, 31] o.type #[v, u]).run Try.prog w = .ok v' w') : (execOp a.eval o).run Try.prog w = .ok (.value v') w' := by
  simp only [execOp, ho, resolve, invoke, builtin, Sem.run_bind, Sem.run_pure, Result.andThen_ok, List.map_toArray, List.map_cons, List.map_nil, hs, hx, hrun]
theorem run_mk_op {w w' : World} {o : Oper} {a : Act} {l c : Operand} {v u v' : Value} (ho : o.op = .makeSlice 31 l c) (hs : a.eval l = v) (hx : a.eval c = u)
    (hrun : (Instr.makeSlice 31 v u).run Try.prog w = .ok v' w') : (execOp a.eval o).run Try.prog w = .ok (.value v') w' := by
  simp only [execOp, ho, Sem.run_bind, Sem.run_pure, Result.andThen_ok, hs, hx, hrun]

/-- The first k payloads, cut at M bytes. -/
def pkM (M : Nat) (xs : List (List Int)) (k : Nat) : List (List Int) := (xs.take k).map (fun x => x.take M)
theorem pkM_succ {M : Nat} {xs : List (List Int)} {k : Nat} (h : k < xs.length) : pkM M xs (k + 1) = pkM M xs k ++ [(xs.getD k []).take M] := by
  unfold pkM
  rw [List.take_succ_eq_append_getElem h, List.map_append]
  simp [List.getD, List.getElem?_eq_getElem h]
theorem pkM_len {M : Nat} {xs : List (List Int)} {k : Nat} (h : k ≤ xs.length) : (pkM M xs k).length = k := by unfold pkM; simp; omega
theorem pkM_le {M : Nat} (hM : M < 1000) {xs : List (List Int)} {k : Nat} : ∀ p ∈ pkM M xs k, p.length < 4294967296 ∧ p.length ≤ M := by
  intro p hp
  unfold pkM at hp
  obtain ⟨x, _, rfl⟩ := List.mem_map.1 hp
  rw [List.length_take]; omega
theorem getD_last {l : List (List Int)} {p : List Int} {k : Nat} (h : l.length = k) : (l ++ [p]).getD k [] = p := by subst h; simp [List.getD]
theorem wrapM (x : Int) : IntKind.i64.wrap x = wrap64 x := by rw [IntKind.wrap_i64]; unfold wrap64; rfl
theorem frms_snoc (l : List (List Int)) (p : List Int) : frms (l ++ [p]) = frms l ++ frm p := by rw [frms_append]; simp [frms]
theorem cut_fit {M : Nat} (hM : M < 1000) {xs : List (List Int)} {k : Nat} : cut M (frms (pkM M xs k) ++ frm (zer M)) = (pkM M xs k ++ [zer M], [], false) := by
  have h := cut_frms (M := M) (frm (zer M) ++ []) (l := pkM M xs k) (pkM_le hM)
  rw [cut_frm (by rw [zer_len]; omega) (by rw [zer_len]; omega), cut_short (l := []) (by simp), List.append_nil] at h
  exact h
theorem cut_over {M : Nat} (hM : M < 1000) {xs : List (List Int)} {k : Nat} : cut M (frms (pkM M xs k) ++ frm (zer (M + 1))) = (pkM M xs k, [], true) := by
  have h := cut_frms (M := M) (frm (zer (M + 1)) ++ []) (l := pkM M xs k) (pkM_le hM)
  rw [cut_frm_big (by rw [zer_len]; omega) (by rw [zer_len]; omega), List.append_nil] at h
  simpa using h

theorem tm500 (z : Int) : -500 < z.tmod 500 ∧ z.tmod 500 < 500 := by
  rcases z with n | n
  · have : (Int.ofNat n).tmod 500 = ((n % 500 : Nat) : Int) := rfl
    rw [this]; omega
  · have : (Int.negSucc n).tmod 500 = -(((n + 1) % 500 : Nat) : Int) := rfl
    rw [this]; omega
theorem mm_of (z : Int) : ∃ kk : Nat, (wrap64 (z.tmod 500 + 500)).tmod 500 = kk ∧ kk < 500 := by
  have h := tm500 z
  obtain ⟨y, hy⟩ : ∃ y : Nat, z.tmod 500 + 500 = y := ⟨(z.tmod 500 + 500).toNat, by omega⟩
  have e1 : wrap64 (y : Int) = y := by unfold wrap64; omega
  have e2 : ((y : Int)).tmod 500 = ((y % 500 : Nat) : Int) := rfl
  exact ⟨y % 500, by rw [hy, e1, e2], by omega⟩

end Go.Proofs.Ytmpoddgmkneffaa
