/- digest.Hi. -/
import Derived.Test.YtmilcknboaefkaaGreatDoorDgO
import Derived.Test.YtmilcknboaefkaaGreatDoorDgX
import Derived.Test.YtmilcknboaefkaaGreatDoorAnyP
set_option maxRecDepth 100000
namespace Go.Proofs.YtmilcknboaefkaaGreatDoor
open Go.RowKit

def uK (ks ss : List Int) : Nat → List Int
  | 0 => hmac ks (ss ++ [0, 0, 0, 1])
  | k + 1 => hmac ks (uK ks ss k)
def sumK (ks ss : List Int) : Nat → List Int
  | 0 => uK ks ss 0
  | k + 1 => xb (sumK ks ss k) (uK ks ss (k + 1)) 32
theorem uK_len (ks ss : List Int) : ∀ k, (uK ks ss k).length = 32
  | 0 => hmac_len _ _
  | _ + 1 => hmac_len _ _
theorem uK_bd (ks ss : List Int) : ∀ k, Bd (uK ks ss k)
  | 0 => hmac_bd _ _
  | _ + 1 => hmac_bd _ _
theorem sumK_len (ks ss : List Int) : ∀ k, (sumK ks ss k).length = 32
  | 0 => uK_len _ _ _
  | k + 1 => by unfold sumK; rw [xb_len]; exact sumK_len ks ss k

theorem exec_load_struct {P : Program} {o : Oper} {ρ : Operand → Value} {w : World} (ty : TypeId) (x : Operand) (ho : o.op = .load ty x) (g : Nat) (hx : ρ x = .pointer (some ⟨g, 0, none⟩)) (t : TypeId) (k : IntKind) (xs : List Int) (d : TypeDesc) (hg : Ar w g t k xs)
    (hu : P.underlying ty = some d) (hd : (match d with | .struct _ | .array _ _ => true | _ => false) = true) (hn : (P.info? ty).map (·.size) = some xs.length) :
    (execOp ρ o).run P w = .ok (.value (.agg (ic k xs).toArray)) w := by
  unfold execOp
  simp only [ho, hx, Instr.loadAt, Instr.sureAddr, Sem.run_bind, Sem.run_pure, Result.andThen_ok, run_loadVar_row w g t ty _ (0, 0) d hg hu hd (by rw [hn]; simp [ic_len])]
theorem results_hi {P : Program} {fn : Func} {p t : Tmp} {ty : TypeId} (h : fn.results = #[.cell p ty, .tmp t]) (tmps : Array Value) (w : World) (g : Nat) (tt : TypeId) (k : IntKind) (xs : List Int) (e : TypeId) (n : Nat) (v : Value)
    (hp : tmps.getD p undef = .pointer (some ⟨g, 0, none⟩)) (ht : tmps.getD t undef = v) (hg : Ar w g tt k xs) (hu : (P.underlying ty, (P.info? ty).map (·.size)) = (some (.array n e), some n)) (hn : xs.length = n) :
    (results fn tmps).run P w = .ok (.tuple #[.agg (ic k xs).toArray, v]) w := by
  have hl := run_loadVar_row w g tt ty _ (0, 0) _ hg (size_of hu).1 rfl (by rw [(size_of hu).2]; simp [ic_len, hn])
  have hp' : tmps[p]?.getD undef = .pointer (some ⟨g, 0, none⟩) := by simpa using hp
  have ht' : tmps[t]?.getD undef = v := by simpa using ht
  simp [results, h, hp', ht', asAddr, hl]
theorem rd_0001 (w : World) : Rd (w.alloc (.cells #[.int .u8 0, .int .u8 0, .int .u8 0, .int .u8 1] 5)) (some ⟨w.heap.size, 0, none⟩) 4 4 [0, 0, 0, 1] := by
  refine ⟨rfl, Nat.le_refl _, by unfold maxLen; omega, (fun h => by cases h), (fun q hq => by simp at hq; omega), fun ad had j hj => ?_⟩
  cases had
  rw [add_flat]
  match j, hj with
  | 0, _ => simp
  | 1, _ => simp
  | 2, _ => simp
  | 3, _ => simp
/-- Two rows: one as told, and the four bytes. -/
def fTwo (s : Value) : Value → World → Prop := fun v w => ∃ fb a2 n2 c2, v = .slice (some ⟨fb, 0, none⟩) 2 2 ∧ w.cell? ⟨fb, 0, none⟩ = some s ∧ w.cell? ⟨fb, 1, none⟩ = some (.slice a2 n2 c2) ∧ n2 ≤ 4 ∧ Rd w a2 n2 c2 [0, 0, 0, 1]
theorem lasts_two (s : Value) : Lasts (fTwo s) := fun _ w _ hb ⟨fb, a2, n2, c2, e, h0, h1, hn, hr⟩ =>
  ⟨fb, a2, n2, c2, e, (hb.cell (p := ⟨fb, 0, none⟩) (World.block_lt_of_cell? w _ h0)).trans h0, (hb.cell (p := ⟨fb, 1, none⟩) (World.block_lt_of_cell? w _ h1)).trans h1, hn, hr.carry (Nat.le_refl _) hb⟩

/-- A new array of 32 zeros. -/
def fNew32 (B : Nat) : Value → World → Prop := fun v w => ∃ g, v = .pointer (some ⟨g, 0, none⟩) ∧ B ≤ g ∧ Ar w g 27 .u8 (List.replicate 32 0)
theorem lasts_new32 (B : Nat) : Lasts (fNew32 B) := fun _ _ _ hb ⟨g, e, h, hA⟩ => ⟨g, e, h, hA.below hb hA.lt⟩
theorem exec_alloc_ar {P : Program} {o : Oper} {ρ : Operand → Value} {w : World} (ty : TypeId) (ho : o.op = .alloc ty) (k : IntKind) (xs : List Int) (n : Nat) (hz : (P.info? ty).map (fun i => (i.zero, i.size)) = some (some (.agg (ic k xs).toArray), n)) :
    (execOp ρ o).run P w = .ok (.value (.pointer (some ⟨w.heap.size, 0, none⟩))) (w.alloc (.cells (ic k xs).toArray ty)) := by
  unfold execOp
  simp only [ho, Instr.alloc, Sem.run_bind, (zero_of_info hz).1 w, newVar, newRow, Value.cells, run_newObj_alloc, Sem.run_pure, Result.andThen_ok]

/-- What stands in memory between two rounds. -/
structure HiW (w : World) (g6 g8 g9 g10 : Nat) (ks us vs : List Int) (wr : World) : Prop where
  k : Kt wr
  o : Ar wr g6 27 .u8 (List.replicate 32 0)
  s : Ar wr g8 92 .u32 (sIn ks ++ sOut ks)
  u : Ar wr g9 27 .u8 us
  v : Ar wr g10 27 .u8 vs
  b : Below w.heap.size w wr
def hiN (ks ss : List Int) (n : Int) : List Int := sumK ks ss (n.toNat - 1)

set_option maxRecDepth 100000 in
set_option maxHeartbeats 800000 in
theorem hi_bad (a : Option Addr) (n c : Nat) (a' : Option Addr) (n' c' : Nat) (N : Int) (w : World) (hN : N < 1 ∨ 4096 < N) :
    Calls Tryz.prog 54 #[.slice a n c, .slice a' n' c', .int .i64 N] w fun e w' => e = .returned (.tuple #[.agg (ic .u8 (List.replicate 32 0)).toArray, .int .i64 3]) ∧ Below w.heap.size w w' := by
  have hi23 := (size_of Tryz.u23).2
  have hz23 : Tryz.prog.built 27 [] = some (ic .u8 (List.replicate 32 0)).toArray := by kernel_rfl
  rcases hN with hN | hN
  · go_enter Tryz.func54, Tryz.ntmps54
    go_wp2_with (first
      | (refine wp_alloc_ar rfl 27 rfl .u8 (List.replicate 32 0) 32 Tryz.z23 ?_; intro g1 w1 A1 hg1 hb1)
      | (refine wp_build_ar rfl 27 rfl .u8 (List.replicate 32 0) hz23 ?_)
      | (refine wp_store_ar rfl 27 (.tmp 6) (.tmp 17) rfl g1 rfl .u8 (List.replicate 32 0) rfl 27 _ A1 rfl (by simpa using hi23) ?_; intro w2 A2 hk2 hs2))
    exact bodyPost_ret (results_hi rfl _ _ g1 27 .u8 _ 5 32 _ rfl rfl A2 Tryz.u23 rfl) rfl ⟨rfl, hb1.trans (hk2.below hb1.size (fun q hq => by omega))⟩
  · have hN1 : ¬ N < 1 := by omega
    go_enter Tryz.func54, Tryz.ntmps54
    go_wp2_with (first
      | (refine wp_alloc_ar rfl 27 rfl .u8 (List.replicate 32 0) 32 Tryz.z23 ?_; intro g1 w1 A1 hg1 hb1)
      | (refine wp_build_ar rfl 27 rfl .u8 (List.replicate 32 0) hz23 ?_)
      | (refine wp_store_ar rfl 27 (.tmp 6) (.tmp 17) rfl g1 rfl .u8 (List.replicate 32 0) rfl 27 _ A1 rfl (by simpa using hi23) ?_; intro w2 A2 hk2 hs2))
    exact bodyPost_ret (results_hi rfl _ _ g1 27 .u8 _ 5 32 _ rfl rfl A2 Tryz.u23 rfl) rfl ⟨rfl, hb1.trans (hk2.below hb1.size (fun q hq => by omega))⟩

set_option maxRecDepth 100000 in
set_option maxHeartbeats 3200000 in
theorem hi_any (a : Option Addr) (n c : Nat) (ks : List Int) (a' : Option Addr) (n' c' : Nat) (ss : List Int) (N : Nat) (w : World) (hR : Rd w a n c ks) (hn : n ≤ 10000) (hR' : Rd w a' n' c' ss) (hn' : n' ≤ 10000) (hN1 : 1 ≤ N) (hN2 : N ≤ 4096) (hK : Kt w) :
    Calls Tryz.prog 54 #[.slice a n c, .slice a' n' c', .int .i64 (N : Int)] w fun e w' => e = .returned (.tuple #[.agg (ic .u8 (sumK ks ss (N - 1))).toArray, .int .i64 0]) ∧ Below w.heap.size w w' := by
  have hi23 := (size_of Tryz.u23).2
  have hsl : (sIn ks ++ sOut ks).length = 16 := by simp [sIn_len, sOut_len]
  have hc1 : ¬ (N : Int) < 1 := by omega
  have hc2 : ¬ (4096 : Int) < (N : Int) := by omega
  have t1 : True := trivial
  have hgw0 := hK.lt
  go_enter Tryz.func54, Tryz.ntmps54
  go_wp2_with (first
    | (clear t1; refine wp_alloc_ar rfl 27 rfl .u8 (List.replicate 32 0) 32 Tryz.z23 ?_; intro g6 w1 A6 hg6 hb1)
    | (go_at_call 50; refine (signerOf_any a n c ks _ (hR.carry (Nat.le_refl _) hb1) (by omega) (hK.below (Nat.le_refl _) hb1)).mono ?_; rintro e w2 ⟨rfl, hb2⟩)
    | (refine wp_alloc_ar rfl 92 rfl .u32 (List.replicate 16 0) 16 Tryz.z51 ?_; intro g8 w3 A8 hg8 hb3)
    | (refine wp_store_ar rfl 92 (.tmp 8) (.tmp 19) rfl g8 rfl .u32 (sIn ks ++ sOut ks) rfl 92 _ A8 (by rw [hsl]; rfl) (by rw [hsl]; exact Tryz.i51) ?_; intro w4 A8' hk4 hs4; clear hs4))
  simp only [Act.put, List.setIfInBounds_toArray, List.set_cons_zero, List.set_cons_succ]
  have s1 := hb1.size
  have s2 := hb2.size
  have s3 := hb3.size
  have l6 := A6.lt
  have e2 := hb1.trans (hb2.mono s1)
  have e3 := e2.trans (hb3.mono e2.size)
  have e4 : Below w.heap.size w w4 := e3.trans (hk4.below e3.size (fun q hq => by omega))
  have n68 : ¬ g6 = g8 := by omega
  have A6' : Ar w4 g6 27 .u8 (List.replicate 32 0) := ((A6.below hb2 l6).below hb3 (by omega)).keep hk4 n68
  have A8 : Ar w4.drew g8 92 .u32 (sIn ks ++ sOut ks) := A8'
  have hS := rd_drewN (hR'.carry (Nat.le_refl _) e4) 1
  have hKX := (hK.below (Nat.le_refl _) e4).drewN 1
  have HB4 : Hid (Below w.heap.size w w4.drew) := e4.drew
  have A6X : Ar w4.drew g6 27 .u8 (List.replicate 32 0) := A6'
  have hg6' : w.heap.size ≤ g6 := hg6
  have hg8' : w.heap.size ≤ g8 := by omega
  have l68 : g6 < w4.heap.size ∧ g8 < w4.heap.size := ⟨A6'.lt, A8'.lt⟩
  clear s1 s2 s3 l6 e2 e3 e4 hk4 A8' A6' A6 hb3 hb2 hb1 hR hR' hK hg6 hg8
  refine wp_region_facts [0, 1, 2, 3, 4, 5, 6] (Gl [(fEq (.agg (ic .u32 (sIn ks ++ sOut ks)).toArray)), (fEq (.slice a' n' c')), (fRd [0, 0, 0, 1] 4), (fTwo (.slice a' n' c')), (fRd (ss ++ [0, 0, 0, 1]) 20000), (fEq (.agg (ic .u8 (uK ks ss 0)).toArray)), (fNew32 w4.heap.size)]) 8 1 (by kernel_rfl) (by kernel_rfl) rfl (by kernel_rfl) (lasts_list ?olst) ?oob ?_
  case olst =>
    intro g hg
    simp only [List.mem_cons, List.not_mem_nil, or_false] at hg
    rcases hg with rfl | rfl | rfl | rfl | rfl | rfl | rfl
    · exact lasts_eq _
    · exact lasts_eq _
    · exact lasts_rd _ _
    · exact lasts_two _
    · exact lasts_rd _ _
    · exact lasts_eq _
    · exact lasts_new32 _
  case oob =>
    refine (allIn_cons ?o0 (allIn_cons ?o1 (allIn_cons ?o2 (allIn_cons ?o3 (allIn_cons ?o4 (allIn_cons ?o5 (allIn_cons ?o6 allIn_nil)))))))
    case o0 =>
      refine ob_val 0 rfl rfl (by simp) (fun tm u h => ⟨?ow0, ?_⟩)
      case ow0 => exact wanted_none rfl
      have s8 : tm.getD 8 undef = .pointer (some ⟨g8, 0, none⟩) := h.same 8 (of_decide_eq_true (by kernel_rfl))
      exact ⟨_, u, exec_load_struct 92 (.tmp 8) rfl g8 s8 92 .u32 _ _ (A8.below h.s A8.lt) Tryz.underlying92 rfl (by rw [hsl]; exact Tryz.i51), rfl, Below.refl _ _⟩
    case o1 =>
      refine ob_val 1 rfl rfl (by simp) (fun tm u h => ⟨?ow1, ?_⟩)
      case ow1 => exact wanted_none rfl
      have s1 : tm.getD 1 undef = .slice a' n' c' := h.same 1 (of_decide_eq_true (by kernel_rfl))
      exact ⟨.slice a' n' c', u, by first | (go_simp; done) | (go_simp; rfl), rfl, Below.refl _ _⟩
    case o2 =>
      refine ob_val 2 rfl rfl (by simp) (fun tm u h => ⟨?ow2, ?_⟩)
      case ow2 => exact wanted_none rfl
      refine ⟨.slice (some ⟨u.heap.size, 0, none⟩) 4 4, u.alloc (.cells #[.int .u8 0, .int .u8 0, .int .u8 0, .int .u8 1] 5), ?_, ⟨_, 4, 4, rfl, by omega, rd_0001 u⟩, (Below.refl _ _).alloc (Nat.le_refl _) _⟩
      first | (go_simp; done) | (go_simp; rfl)
    case o3 =>
      refine ob_val 3 rfl rfl (by simp) (fun tm u h => ⟨?ow3, ?_⟩)
      case ow3 => exact wanted_none rfl
      have f1 : tm.getD 21 undef = .slice a' n' c' := h.dep 1 _ _ (by simp) rfl rfl ⟨_, rfl, by kernel_rfl⟩
      obtain ⟨a2, n2, c2, f2, hn2, hr2⟩ : fRd [0, 0, 0, 1] 4 (tm.getD 22 undef) u := h.dep 2 _ _ (by simp) rfl rfl ⟨_, rfl, by kernel_rfl⟩
      have qf1 := f1
      rw [Array.getD_eq_getD_getElem?] at qf1
      have qf2 := f2
      rw [Array.getD_eq_getD_getElem?] at qf2
      refine ⟨.slice (some ⟨u.heap.size, 0, none⟩) 2 2, u.alloc (.cells #[.slice a' n' c', .slice a2 n2 c2] 22), ?_, ⟨u.heap.size, a2, n2, c2, rfl, by simp, by simp, hn2, hr2.carry (Nat.le_refl _) ((Below.refl _ _).alloc (Nat.le_refl _) _)⟩, (Below.refl _ _).alloc (Nat.le_refl _) _⟩
      first | (go_simp; done) | (go_simp; rfl)
    case o4 =>
      refine ob_call 4 rfl rfl (by simp) (fun tm u h => ⟨?ow4, ?_⟩)
      case ow4 => exact wanted_none rfl
      have f3 := h.dep 3 _ _ (by simp) rfl rfl ⟨_, rfl, by kernel_rfl⟩
      obtain ⟨fb, a2, n2, c2, e3, hc0, hc1, hn2, hr2⟩ : fTwo (.slice a' n' c') (tm.getD 23 undef) u := f3
      refine ⟨82, #[.slice (some ⟨fb, 0, none⟩) 2 2], by first | (go_simp; done) | (go_simp; rfl), ?_⟩
      have hl2 := hr2.len
      refine (concat2_any fb a' n' c' ss a2 n2 c2 [0, 0, 0, 1] u (hS.carry (Nat.le_refl _) h.s) hr2 hc0 hc1 (by simp at hl2; omega) (by omega) (by omega)).mono ?_
      rintro e u2 ⟨v2, rfl, ho2, hb2⟩
      obtain ⟨p, q, rfl, hp⟩ := Rd.ofOwn ho2 (hS.bytes.append hr2.bytes)
      exact ⟨_, rfl, ⟨p, _, q, rfl, by omega, hp⟩, hb2⟩
    case o5 =>
      refine ob_call 5 rfl rfl (by simp) (fun tm u h => ⟨?ow5, ?_⟩)
      case ow5 => exact wanted_none rfl
      have f0 : tm.getD 20 undef = .agg (ic .u32 (sIn ks ++ sOut ks)).toArray := h.dep 0 _ _ (by simp) rfl rfl ⟨_, rfl, by kernel_rfl⟩
      obtain ⟨a4, n4, c4, f4, hn4, hr4⟩ : fRd (ss ++ [0, 0, 0, 1]) 20000 (tm.getD 24 undef) u := h.dep 4 _ _ (by simp) rfl rfl ⟨_, rfl, by kernel_rfl⟩
      refine ⟨51, #[.agg (ic .u32 (sIn ks ++ sOut ks)).toArray, .slice a4 n4 c4], by first | (go_simp; done) | (go_simp; rfl), ?_⟩
      refine (sign_any (sIn ks) (sOut ks) a4 n4 c4 (ss ++ [0, 0, 0, 1]) u (sIn_len ks) (sOut_len ks) hr4 (by omega) (hKX.below (Nat.le_refl _) h.s)).mono ?_
      rintro e u2 ⟨rfl, hb2⟩
      exact ⟨_, rfl, rfl, hb2⟩
    case o6 =>
      refine ob_val 6 rfl rfl (by simp) (fun tm u h => ⟨?ow6, ?_⟩)
      case ow6 => exact wanted_none rfl
      refine ⟨.pointer (some ⟨u.heap.size, 0, none⟩), u.alloc (.cells (ic .u8 (List.replicate 32 0)).toArray 27), ?_, ⟨u.heap.size, rfl, h.s.size, heap_alloc_new _ _⟩, (Below.refl _ _).alloc (Nat.le_refl _) _⟩
      exact exec_alloc_ar 27 rfl .u8 _ 32 Tryz.z23
  intro af wf hAO
  obtain ⟨g9, k9, hg9, A9⟩ : fNew32 w4.heap.size (af.tmps.getD 9 undef) wf := hAO.got 6 _ _ rfl (by simp) rfl rfl
  have k25 : af.tmps.getD 25 undef = .agg (ic .u8 (uK ks ss 0)).toArray := hAO.got 5 _ _ rfl (by simp) rfl rfl
  have hs := hAO.s
  have p2 : af.tmps.getD 2 undef = .int .i64 N := hAO.same 2 (of_decide_eq_true (by kernel_rfl))
  have p6 : af.tmps.getD 6 undef = .pointer (some ⟨g6, 0, none⟩) := hAO.same 6 (of_decide_eq_true (by kernel_rfl))
  have p8 : af.tmps.getD 8 undef = .pointer (some ⟨g8, 0, none⟩) := hAO.same 8 (of_decide_eq_true (by kernel_rfl))
  obtain ⟨tm, dfx⟩ := af
  obtain rfl : dfx = [] := hAO.df
  have hsz : tm.size = 39 := hAO.sz
  clear hAO
  have eF : tm = #[tm.getD 0 undef, tm.getD 1 undef, tm.getD 2 undef, tm.getD 3 undef, tm.getD 4 undef, tm.getD 5 undef, tm.getD 6 undef, tm.getD 7 undef, tm.getD 8 undef, tm.getD 9 undef, tm.getD 10 undef, tm.getD 11 undef, tm.getD 12 undef, tm.getD 13 undef, tm.getD 14 undef, tm.getD 15 undef, tm.getD 16 undef, tm.getD 17 undef, tm.getD 18 undef, tm.getD 19 undef, tm.getD 20 undef, tm.getD 21 undef, tm.getD 22 undef, tm.getD 23 undef, tm.getD 24 undef, tm.getD 25 undef, tm.getD 26 undef, tm.getD 27 undef, tm.getD 28 undef, tm.getD 29 undef, tm.getD 30 undef, tm.getD 31 undef, tm.getD 32 undef, tm.getD 33 undef, tm.getD 34 undef, tm.getD 35 undef, tm.getD 36 undef, tm.getD 37 undef, tm.getD 38 undef] := eta_arr tm 39 hsz
  dsimp only at eF
  have kF2 : tm.getD 2 undef = .int .i64 N := p2
  have kF6 : tm.getD 6 undef = .pointer (some ⟨g6, 0, none⟩) := p6
  have kF8 : tm.getD 8 undef = .pointer (some ⟨g8, 0, none⟩) := p8
  have kF9 : tm.getD 9 undef = .pointer (some ⟨g9, 0, none⟩) := k9
  have kF25 : tm.getD 25 undef = .agg (ic .u8 (uK ks ss 0)).toArray := k25
  rw [kF2, kF6, kF8, kF9, kF25] at eF
  clear kF2 kF6 kF8 kF9 kF25
  generalize tm.getD 0 undef = vF0 at eF
  generalize tm.getD 1 undef = vF1 at eF
  generalize tm.getD 3 undef = vF3 at eF
  generalize tm.getD 4 undef = vF4 at eF
  generalize tm.getD 5 undef = vF5 at eF
  generalize tm.getD 7 undef = vF7 at eF
  generalize tm.getD 10 undef = vF10 at eF
  generalize tm.getD 11 undef = vF11 at eF
  generalize tm.getD 12 undef = vF12 at eF
  generalize tm.getD 13 undef = vF13 at eF
  generalize tm.getD 14 undef = vF14 at eF
  generalize tm.getD 15 undef = vF15 at eF
  generalize tm.getD 16 undef = vF16 at eF
  generalize tm.getD 17 undef = vF17 at eF
  generalize tm.getD 18 undef = vF18 at eF
  generalize tm.getD 19 undef = vF19 at eF
  generalize tm.getD 20 undef = vF20 at eF
  generalize tm.getD 21 undef = vF21 at eF
  generalize tm.getD 22 undef = vF22 at eF
  generalize tm.getD 23 undef = vF23 at eF
  generalize tm.getD 24 undef = vF24 at eF
  generalize tm.getD 26 undef = vF26 at eF
  generalize tm.getD 27 undef = vF27 at eF
  generalize tm.getD 28 undef = vF28 at eF
  generalize tm.getD 29 undef = vF29 at eF
  generalize tm.getD 30 undef = vF30 at eF
  generalize tm.getD 31 undef = vF31 at eF
  generalize tm.getD 32 undef = vF32 at eF
  generalize tm.getD 33 undef = vF33 at eF
  generalize tm.getD 34 undef = vF34 at eF
  generalize tm.getD 35 undef = vF35 at eF
  generalize tm.getD 36 undef = vF36 at eF
  generalize tm.getD 37 undef = vF37 at eF
  generalize tm.getD 38 undef = vF38 at eF
  subst eF
  have hu0 : (uK ks ss 0).length = 32 := uK_len _ _ _
  refine lx_one 7 (by kernel_rfl) (stepT_store (w' := wf.setRow g9 (ic .u8 (uK ks ss 0)).toArray) rfl rfl rfl ?rs (fun _ => trivial) ?_)
  case rs => exact exec_store_ar 27 (.tmp 9) (.tmp 25) rfl g9 rfl .u8 (uK ks ss 0) rfl 27 _ A9 (by rw [hu0]; rfl) (by rw [hu0]; exact hi23)
  refine lx_nil (by kernel_rfl) ?_
  have hkr : Keep (fun j => j = g9) wf (wf.setRow g9 (ic .u8 (uK ks ss 0)).toArray) := ⟨rfl, rfl, rfl, by simp, fun j _ hj => setRow_other wf g9 j _ hj⟩
  have A9' : Ar (wf.setRow g9 (ic .u8 (uK ks ss 0)).toArray) g9 27 .u8 (uK ks ss 0) := A9.row
  obtain ⟨w9, HW9⟩ : ∃ w9, Hid (wf.setRow g9 (ic .u8 (uK ks ss 0)).toArray = w9) := ⟨_, rfl⟩
  rw [HW9.out] at hkr A9' ⊢
  have bf : Below w.heap.size w wf := HB4.out.trans (hs.mono HB4.out.size)
  have b9 : Below w.heap.size w w9 := bf.trans (hkr.below bf.size (fun q hq => by have := HB4.out.size; have e : w4.drew.heap.size = w4.heap.size := rfl; omega))
  have m69 : ¬ g6 = g9 := by omega
  have m89 : ¬ g8 = g9 := by omega
  have B6 : Ar w9 g6 27 .u8 (List.replicate 32 0) := (A6X.below hs l68.1).keep hkr m69
  have B8 : Ar w9 g8 92 .u32 (sIn ks ++ sOut ks) := (A8.below hs l68.2).keep hkr m89
  have hgl := hKX.lt
  have K9 : Kt w9 := (hKX.below (Nat.le_refl _) hs).keep hkr (by have e : (w4.drewN 1).heap.size = w4.heap.size := rfl; rw [e] at hgl; show ¬ _ = _; omega) (by have e : (w4.drewN 1).heap.size = w4.heap.size := rfl; rw [e] at hgl; show ¬ _ = _; omega)
  have hg9' : w.heap.size ≤ g9 := by have := HB4.out.size; have e : w4.drew.heap.size = w4.heap.size := rfl; omega
  clear hkr A9 hs bf A6X A8 hKX hS hgl HW9 HB4 n68 hg9 l68
  go_wp2_with (first
    | (refine wp_load_ar rfl 27 (.tmp 9) rfl g9 rfl 27 .u8 (uK ks ss 0) 5 32 A9' Tryz.u23 hu0 ?_)
    | (refine wp_alloc_ar rfl 27 rfl .u8 (List.replicate 32 0) 32 Tryz.z23 ?_; intro g10 w10 A10 hg10 hb10)
    | (refine wp_store_ar rfl 27 (.tmp 10) (.tmp 26) rfl g10 rfl .u8 (uK ks ss 0) rfl 27 _ A10 (by rw [hu0]; rfl) (by rw [hu0]; exact hi23) ?_; intro w11 A11 hk11 hs11; clear hs11))
  have l6 := B6.lt
  have l8 := B8.lt
  have l9 := A9'.lt
  have HM : HiW w g6 g8 g9 g10 ks (uK ks ss 0) (sumK ks ss 0) w11 := by
    have hkl := K9.lt
    have n1 : ¬ g6 = g10 := by omega
    have n2 : ¬ g8 = g10 := by omega
    have n3 : ¬ g9 = g10 := by omega
    have n4 : ¬ 0 = g10 := by omega
    have n5 : ¬ 3 = g10 := by omega
    have b10 := b9.trans (hb10.mono b9.size)
    exact ⟨(K9.below (Nat.le_refl _) hb10).keep hk11 n4 n5, (B6.below hb10 l6).keep hk11 n1, (B8.below hb10 l8).keep hk11 n2, (A9'.below hb10 l9).keep hk11 n3, A11, b10.trans (hk11.below b10.size (fun q hq => by have := b9.size; omega))⟩
  have hg10' : w.heap.size ≤ g10 := by have := b9.size; omega
  have m910 : g9 ≠ g10 ∧ g8 ≠ g10 ∧ g6 ≠ g10 := by omega
  have hgw : 0 < w.heap.size ∧ 3 < w.heap.size := hgw0
  have hcn : ((N : Int) - 1) = ((N - 1 : Nat) : Int) := by omega
  obtain ⟨M, HMN⟩ : ∃ M, Hid (N - 1 = M) := ⟨_, rfl⟩
  rw [HMN.out] at hcn
  have hM : M ≤ 4095 := by rw [← HMN.out]; omega
  clear l6 l8 l9 K9 B6 B8 A9' A10 A11 hb10 hk11 hg10 b9
  rw [hcn]
  clear hcn
  go_loopw [29] (fun i wr => ∃ k : Nat, k ≤ M ∧ i = .int .i64 k ∧ HiW w g6 g8 g9 g10 ks (uK ks ss k) (sumK ks ss k) wr) (fun i _ => M - (intOf i).toNat)
  case atStart => exact ⟨0, by omega, rfl, HM⟩
  case round =>
    clear HM
    obtain ⟨k, hk, rfl, HM⟩ := hrel
    by_cases hlt : k < M
    · have hlz : (k : Int) < (M : Int) := by omega
      have hul := uK_len ks ss k
      have hub := uK_bd ks ss k
      have hul1 := uK_len ks ss (k + 1)
      have hsl1 := sumK_len ks ss k
      have hsl2 := sumK_len ks ss (k + 1)
      go_wp2_with fail
      have s0 : Ar wr.drew g8 92 .u32 (sIn ks ++ sOut ks) := HM.s
      have u0 : Ar wr.drew g9 27 .u8 (uK ks ss k) := HM.u
      have v0 : Ar wr.drew g10 27 .u8 (sumK ks ss k) := HM.v
      have o0 : Ar wr.drew g6 27 .u8 (List.replicate 32 0) := HM.o
      have k0 : Kt wr.drew := HM.k.drewN 1
      have HB0 : Hid (Below w.heap.size w wr.drew) := HM.b.drew
      have hrd : Rd wr.drew (some ⟨g9, 0, none⟩) 32 32 (uK ks ss k) := by have := rd_row u0 hub (by rw [hul]; unfold maxLen; omega); rw [hul] at this; exact this
      refine wp_region_lx (fun w' => Below wr.drew.heap.size wr.drew w') [3] 4 (by kernel_rfl) (by kernel_rfl) ?_
      obtain ⟨W, HW⟩ : ∃ W, Hid (wr.drew = W) := ⟨_, rfl⟩
      rw [HW.out] at s0 u0 v0 o0 k0 HB0 hrd ⊢
      have HS0 : Below W.heap.size W W := Below.refl _ _
      clear HM
      refine lx_rd 0 (.agg (ic .u32 (sIn ks ++ sOut ks)).toArray) (by kernel_rfl) (fun _ _ d _ _ h => by cases d <;> exact h) (by kernel_rfl) HS0 rfl rfl rfl (fun w' hS => ?hLA0) ?_
      case hLA0 => exact exec_load_struct 92 (.tmp 8) rfl g8 rfl 92 .u32 _ _ (s0.below hS s0.lt) Tryz.underlying92 rfl (by rw [hsl]; exact Tryz.i51)
      simp only [List.setIfInBounds_toArray, List.set_cons_zero, List.set_cons_succ]
      refine lx_rd 1 (.slice (some ⟨g9, 0, none⟩) 32 32) (by kernel_rfl) (fun _ _ d _ _ h => by cases d <;> exact h) (by kernel_rfl) HS0 rfl rfl rfl (fun w' hS => ?hLA1) ?_
      case hLA1 => first | (go_simp; rfl) | go_simp
      simp only [List.setIfInBounds_toArray, List.set_cons_zero, List.set_cons_succ]
      refine lx_one 2 (by kernel_rfl) (stepT_call 51 #[.agg (ic .u32 (sIn ks ++ sOut ks)).toArray, .slice (some ⟨g9, 0, none⟩) 32 32] rfl rfl rfl ?r2 ?_)
      case r2 => first | (go_simp; rfl) | go_simp
      refine (sign_any (sIn ks) (sOut ks) _ 32 32 (uK ks ss k) _ (sIn_len ks) (sOut_len ks) hrd (by omega) k0).mono ?_
      rintro e u1 ⟨rfl, b1⟩
      refine ⟨_, rfl, fun _ => b1, ?_⟩
      simp only [List.setIfInBounds_toArray, List.set_cons_zero, List.set_cons_succ]
      have s1 := s0.below b1 s0.lt
      have u1' := u0.below b1 u0.lt
      have v1 := v0.below b1 v0.lt
      have o1 := o0.below b1 o0.lt
      have k1 := k0.below (Nat.le_refl _) b1
      have B1 := HB0.out.trans (b1.mono HB0.out.size)
      refine lx_one 3 (by kernel_rfl) (stepT_store (w' := u1.setRow g9 (ic .u8 (uK ks ss (k + 1))).toArray) rfl rfl rfl ?r3 (fun h => by cases h) ?_)
      case r3 => exact exec_store_ar 27 (.tmp 9) (.tmp 33) rfl g9 rfl .u8 (uK ks ss (k + 1)) rfl 27 _ u1' (by rw [hul, hul1]) (by rw [hul1]; exact hi23)
      refine lx_nil (by kernel_rfl) ?_
      have hk2 : Keep (fun j => j = g9) u1 (u1.setRow g9 (ic .u8 (uK ks ss (k + 1))).toArray) := ⟨rfl, rfl, rfl, by simp, fun j _ hj => setRow_other u1 g9 j _ hj⟩
      have u2' : Ar (u1.setRow g9 (ic .u8 (uK ks ss (k + 1))).toArray) g9 27 .u8 (uK ks ss (k + 1)) := u1'.row
      obtain ⟨x2, HX2⟩ : ∃ x2, Hid (u1.setRow g9 (ic .u8 (uK ks ss (k + 1))).toArray = x2) := ⟨_, rfl⟩
      rw [HX2.out] at hk2 u2' ⊢
      have q1 : ¬ g8 = g9 := m89
      have q2 : ¬ g10 = g9 := by omega
      have q3 : ¬ g6 = g9 := m69
      have q4 : ¬ 0 = g9 := by omega
      have q5 : ¬ 3 = g9 := by omega
      have s2 := s1.keep hk2 q1
      have v2 := v1.keep hk2 q2
      have o2 := o1.keep hk2 q3
      have k2 := k1.keep hk2 q4 q5
      have B2 : Below w.heap.size w x2 := B1.trans (hk2.below B1.size (fun q hq => by omega))
      clear s0 s1 u0 u1' v0 v1 o0 o1 k0 k1 B1 b1 hk2 HB0 HS0 HX2 HW hrd hub
      go_wp2_with (first
        | (refine wp_load_ar rfl 27 (.tmp 10) rfl g10 rfl 27 .u8 (sumK ks ss k) 5 32 v2 Tryz.u23 hsl1 ?_)
        | (refine wp_load_ar rfl 27 (.tmp 9) rfl g9 rfl 27 .u8 (uK ks ss (k + 1)) 5 32 u2' Tryz.u23 hul1 ?_)
        | (go_at_call 24; refine (xor_any (sumK ks ss k) (uK ks ss (k + 1)) _ hsl1 hul1).mono ?_; rintro e x3 ⟨rfl, b3⟩)
        | (refine wp_store_ar rfl 27 (.tmp 10) (.tmp 36) rfl g10 rfl .u8 (xb (sumK ks ss k) (uK ks ss (k + 1)) 32) rfl 27 _ (v2.below b3 v2.lt) (by rw [hsl1, xb_len, hsl1]) (by rw [xb_len, hsl1]; exact hi23) ?_; intro x4 v4 hk4 hs4; clear hs4))
      have p1 : ¬ g8 = g10 := m910.2.1
      have p2 : ¬ g9 = g10 := m910.1
      have p3 : ¬ g6 = g10 := m910.2.2
      have p4 : ¬ 0 = g10 := by omega
      have p5 : ¬ 3 = g10 := by omega
      have B3 := B2.trans (b3.mono B2.size)
      go_roundw
      case rel => exact ⟨k + 1, by omega, by go_num, ⟨(k2.below (Nat.le_refl _) b3).keep hk4 p4 p5, (o2.below b3 o2.lt).keep hk4 p3, (s2.below b3 s2.lt).keep hk4 p1, (u2'.below b3 u2'.lt).keep hk4 p2, v4, B3.trans (hk4.below B3.size (fun q hq => by omega))⟩⟩
      case measure => simp [intOf]; omega
    · obtain rfl : k = M := by omega
      have hlz : ¬ (k : Int) < (k : Int) := by omega
      have hsM := sumK_len ks ss k
      go_wp2_with (first
        | (refine wp_load_ar rfl 27 (.tmp 10) rfl g10 rfl 27 .u8 (sumK ks ss k) 5 32 HM.v Tryz.u23 hsM ?_)
        | (refine wp_store_ar rfl 27 (.tmp 6) (.tmp 38) rfl g6 rfl .u8 (sumK ks ss k) rfl 27 _ HM.o (by rw [hsM]; rfl) (by rw [hsM]; exact hi23) ?_; intro x4 v4 hk4 hs4; clear hs4))
      rw [HMN.out]
      exact bodyPost_ret (results_hi rfl _ _ g6 27 .u8 (sumK ks ss k) 5 32 _ rfl rfl v4 Tryz.u23 hsM) rfl ⟨rfl, HM.b.trans (hk4.below HM.b.size (fun q hq => by omega))⟩

end Go.Proofs.YtmilcknboaefkaaGreatDoor
