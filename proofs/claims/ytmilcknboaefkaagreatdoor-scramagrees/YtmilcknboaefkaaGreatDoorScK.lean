/- The bytes of a literal: made, and marked. -/
import Derived.Test.YtmilcknboaefkaaGreatDoorAnyQ
import Derived.Test.YtmilcknboaefkaaGreatDoorDgU
import Derived.Test.YtmilcknboaefkaaGreatDoorDgHj
import Derived.Test.YtmilcknboaefkaaGreatDoorDgQ
import Derived.Test.YtmilcknboaefkaaGreatDoorScF
namespace Go.Proofs.YtmilcknboaefkaaGreatDoor
open Go.RowKit

theorem run_mark (w : World) (g : Nat) (C : Array Value) (m : Nat × Nat) (n c : Nat) (hg : w.heap[g]? = some (.cells C 5 m)) :
    (convert 22 22 (.slice (some ⟨g, 0, none⟩) n c)).run Tryz.prog w = .ok (.slice (some ⟨g, 0, none⟩) n c) (w.freeze ⟨g, C.size, none⟩ 1) := by
  have hsh : w.shape? g = some (5, C.size) := by unfold World.shape?; rw [hg]
  simp [convert, run_underlying Tryz.underlying22, run_underlying Tryz.underlying5, markStringish, hsh]
theorem freeze_other (w : World) (a : Addr) (k : Nat) (h : k ≠ a.block) : (w.freeze a 1).heap[k]? = w.heap[k]? := by
  unfold World.freeze
  rw [if_neg (by decide)]
  show (w.heap.modify a.block _)[k]? = _
  rw [Array.getElem?_modify, if_neg (fun e => h e.symm)]
theorem freeze_self (w : World) (g i : Nat) (C : Array Value) (e : TypeId) (m : Nat × Nat) (hg : w.heap[g]? = some (.cells C e m)) : ∃ m', (w.freeze ⟨g, i, none⟩ 1).heap[g]? = some (.cells C e m') := by
  unfold World.freeze
  rw [if_neg (by decide)]
  show ∃ m', (w.heap.modify g _)[g]? = _
  rw [Array.getElem?_modify, if_pos rfl, hg]
  exact ⟨_, rfl⟩
theorem freeze_st {W w : World} {g i : Nat} {C : Array Value} {e : TypeId} {m : Nat × Nat} (hg : w.heap[g]? = some (.cells C e m)) (hW : W.heap.size ≤ g) : Q.St W w (w.freeze ⟨g, i, none⟩ 1) := by
  have hs : (w.freeze ⟨g, i, none⟩ 1).heap.size = w.heap.size := by
    unfold World.freeze; rw [if_neg (by decide)]; simp
  refine ⟨⟨?_, ?_, ?_, by rw [hs]; exact Nat.le_refl _, fun k hk => freeze_other w _ k (by show k ≠ g; omega)⟩, ⟨by rw [hs]; exact Nat.le_refl _, fun k hk => ?_⟩⟩
  · unfold World.freeze; rw [if_neg (by decide)]
  · unfold World.freeze; rw [if_neg (by decide)]
  · unfold World.freeze; rw [if_neg (by decide)]
  · by_cases h : k = g
    · subst h
      obtain ⟨m', hm⟩ := freeze_self w k i C e m hg
      exact .inr ⟨C, e, m, m', hg, hm⟩
    · exact .inl (freeze_other w _ k h)
/-- A literal's bytes. -/
def fLit (B : Nat) (X : List Int) : Value → World → Prop := fun v w => ∃ g m, v = .slice (some ⟨g, 0, none⟩) X.length X.length ∧ B ≤ g ∧ w.heap[g]? = some (.cells (bc X).toArray 5 m)
theorem lasts_lit (B : Nat) (X : List Int) : Q.Lasts (fLit B X) := fun _ w w' hk ⟨g, m, e, hB, hg⟩ => by
  rcases hk.cells g (Array.getElem?_eq_some_iff.1 hg).1 with h | ⟨cs, t, m1, m2, h1, h2⟩
  · exact ⟨g, m, e, hB, h.trans hg⟩
  · rw [hg] at h1
    cases h1
    exact ⟨g, m2, e, hB, h2⟩
theorem lit_rd {w : World} {g : Nat} {m : Nat × Nat} {X : List Int} (hg : w.heap[g]? = some (.cells (bc X).toArray 5 m)) (hb : Bd X) (hl : X.length ≤ 1000) : Rd w (some ⟨g, 0, none⟩) X.length X.length X := by
  refine ⟨rfl, Nat.le_refl _, by unfold maxLen; omega, (fun h => by cases h), hb, fun ad had j hj => ?_⟩
  cases had
  rw [add_flat]
  unfold World.cell?
  simp only [hg]
  simp [bc, List.getElem?_map, List.getD, List.getElem?_eq_getElem hj]

theorem exec_conv {w w' : World} {o : Oper} {ρ : Operand → Value} {s t : TypeId} {x : Operand} {v v' : Value} (ho : o.op = .convert s t x) (hx : ρ x = v) (hr : (convert s t v).run Tryz.prog w = .ok v' w') : (execOp ρ o).run Tryz.prog w = .ok (.value v') w' := by
  simp only [execOp, ho, hx, Sem.run_bind, Sem.run_pure, hr, Result.andThen_ok]
/-- '[]byte(s)' reads as the string's bytes, in new memory. -/
theorem bytes_run (s : ByteArray) (w : World) (hs : s.size ≤ 1000000) : ∃ c w', (convert 9 22 (.string s)).run Tryz.prog w = .ok (.slice (some ⟨w.heap.size, 0, none⟩) s.size c) w' ∧ Rd w' (some ⟨w.heap.size, 0, none⟩) s.size c (nums s) ∧ Below w.heap.size w w' := by
  refine ⟨_, _, run_bytes_of_string w 9 22 5 s Tryz.underlying9 Tryz.underlying22 Tryz.underlying5, ?_, ?_⟩
  · refine ⟨nums_len s, grownCap_ge _ _ _ _, grownCap_le_maxLen _ _ _ _ (by unfold maxLen; omega), (fun h => by cases h), nums_bd s, fun ad had j hj => ?_⟩
    cases had
    have hj' : j < s.data.size := hj
    rw [add_flat, Nat.zero_add, show w.heap.size = w.drew.heap.size from rfl, World.cell?_alloc_mark, bytesRow_at s _ j hj']
    simp [nums, List.getD, Array.getElem?_eq_getElem hj']
  · exact ((Below.refl _ _).drew).alloc (Nat.le_refl _) _
theorem bytes_tx (P : Tx) (w : World) (hs : P.length ≤ 1000000) : ∃ c w', (convert 9 22 (.string ⟨P.toArray⟩)).run Tryz.prog w = .ok (.slice (some ⟨w.heap.size, 0, none⟩) P.length c) w' ∧ Rd w' (some ⟨w.heap.size, 0, none⟩) P.length c (il P) ∧ Below w.heap.size w w' := by
  have h := bytes_run ⟨P.toArray⟩ w (by rw [size_tx]; exact hs)
  rw [size_tx] at h
  exact h

def ckey : List Int := [67, 108, 105, 101, 110, 116, 32, 75, 101, 121]
def skey : List Int := [83, 101, 114, 118, 101, 114, 32, 75, 101, 121]
theorem ckey_bd : Bd ckey := fun x hx => by simp [ckey] at hx; omega
theorem skey_bd : Bd skey := fun x hx => by simp [skey] at hx; omega
theorem xb_bd {xs ys : List Int} (h : Bd xs) : ∀ k, Bd (xb xs ys k)
  | 0 => h
  | k + 1 => by unfold xb; exact (xb_bd h k).set _ (bits8 _ _ _).1 (bits8 _ _ _).2
theorem sumK_bd (ks ss : List Int) : ∀ k, Bd (sumK ks ss k)
  | 0 => uK_bd _ _ _
  | k + 1 => by unfold sumK; exact xb_bd (sumK_bd ks ss k) 32
theorem results_two {P : Program} {fn : Func} {p q t : Tmp} {ty : TypeId} (h : fn.results = #[.cell p ty, .cell q ty, .tmp t]) (tmps : Array Value) (w : World) (g g' : Nat) (tt : TypeId) (k : IntKind) (xs ys : List Int) (e : TypeId) (n : Nat) (v : Value)
    (hp : tmps.getD p undef = .pointer (some ⟨g, 0, none⟩)) (hq : tmps.getD q undef = .pointer (some ⟨g', 0, none⟩)) (ht : tmps.getD t undef = v) (hg : Ar w g tt k xs) (hg' : Ar w g' tt k ys) (hu : (P.underlying ty, (P.info? ty).map (·.size)) = (some (.array n e), some n)) (hn : xs.length = n) (hn' : ys.length = n) :
    (results fn tmps).run P w = .ok (.tuple #[.agg (ic k xs).toArray, .agg (ic k ys).toArray, v]) w := by
  have hl := run_loadVar_row w g tt ty _ (0, 0) _ hg (size_of hu).1 rfl (by rw [(size_of hu).2]; simp [ic_len, hn])
  have hl' := run_loadVar_row w g' tt ty _ (0, 0) _ hg' (size_of hu).1 rfl (by rw [(size_of hu).2]; simp [ic_len, hn'])
  have hp' : tmps[p]?.getD undef = .pointer (some ⟨g, 0, none⟩) := by simpa using hp
  have hq' : tmps[q]?.getD undef = .pointer (some ⟨g', 0, none⟩) := by simpa using hq
  have ht' : tmps[t]?.getD undef = v := by simpa using ht
  simp [results, h, hp', hq', ht', asAddr, hl, hl']

set_option maxRecDepth 100000 in
set_option maxHeartbeats 3200000 in
theorem pwKeys_ok (P : Tx) (a : Option Addr) (n c : Nat) (ss : List Int) (N : Nat) (w : World) (hP : P.length ≤ 10000) (hR : Rd w a n c ss) (hn : n ≤ 10000) (hN1 : 1 ≤ N) (hN2 : N ≤ 4096) (hK : Kt w) :
    Calls Tryz.prog 26 #[.string ⟨P.toArray⟩, .slice a n c, .int .i64 (N : Int)] w fun e w' => e = .returned (.tuple #[.agg (ic .u8 (hmac (sumK (il P) ss (N - 1)) ckey)).toArray, .agg (ic .u8 (hmac (sumK (il P) ss (N - 1)) skey)).toArray, .int .i64 0]) ∧ Below w.heap.size w w' := by
  have hi23 := (size_of Tryz.u23).2
  have hlP := il_len P
  obtain ⟨S, HS⟩ : ∃ S, Hid (sumK (il P) ss (N - 1) = S) := ⟨_, rfl⟩
  have hSl : S.length = 32 := by rw [← HS.out]; exact sumK_len _ _ _
  have hSb : Bd S := by rw [← HS.out]; exact sumK_bd _ _ _
  rw [HS.out]
  have tk1 : True := trivial
  have tk2 : True := trivial
  go_enter Tryz.func26, Tryz.ntmps26
  go_wp2_with (first
    | (clear tk1; refine wp_alloc_ar rfl 27 rfl .u8 (List.replicate 32 0) 32 Tryz.z23 ?_; intro g6 w1 A6 hg6 hb1)
    | (clear tk2; refine wp_alloc_ar rfl 27 rfl .u8 (List.replicate 32 0) 32 Tryz.z23 ?_; intro g7 w2 A7 hg7 hb2; obtain ⟨cB, wB, hcv, hRB, hbB⟩ := bytes_tx P w2 (by omega); have e1 := hb1.trans (hb2.mono hb1.size); have e2 := e1.trans (hbB.mono e1.size))
    | (go_at_call 54; refine (hi_any _ _ _ (il P) a n c ss N _ hRB (by omega) (hR.carry (Nat.le_refl _) e2) hn hN1 hN2 (hK.below (Nat.le_refl _) e2)).mono ?_; rw [HS.out]; rintro e w3 ⟨rfl, hb3⟩; clear hcv)
    | (refine wp_alloc_ar rfl 27 rfl .u8 (List.replicate 32 0) 32 Tryz.z23 ?_; intro g9 w4 A9 hg9 hb4)
    | (refine wp_store_ar rfl 27 (.tmp 9) (.tmp 16) rfl g9 rfl .u8 S rfl 27 _ A9 (by rw [hSl]; rfl) (by rw [hSl]; exact hi23) ?_; intro w5 A9' hk5 hs5; clear hs5))
  have s1 := hb1.size
  have s2 := hb2.size
  have sB := hbB.size
  have s3 := hb3.size
  have s4 := hb4.size
  have l6 := A6.lt
  have l7 := A7.lt
  have b7 : Below w2.heap.size w2 w4 := (hbB.trans (hb3.mono sB)).trans (hb4.mono (Nat.le_trans sB s3))
  have e4 : Below w.heap.size w w4 := e1.trans (b7.mono e1.size)
  have e5 : Below w.heap.size w w5 := e4.trans (hk5.below e4.size (fun q hq => by omega))
  have n67 : ¬ g6 = g7 := by omega
  have A6X : Ar w5.drew g6 27 .u8 (List.replicate 32 0) := (((A6.below hb2 l6).below b7 (by omega)).keep hk5 (by omega) : Ar w5 g6 27 .u8 (List.replicate 32 0))
  have A7X : Ar w5.drew g7 27 .u8 (List.replicate 32 0) := ((A7.below b7 l7).keep hk5 (by omega) : Ar w5 g7 27 .u8 (List.replicate 32 0))
  have hS9 : Rd w5.drew (some ⟨g9, 0, none⟩) 32 32 S := by have := rd_row A9' hSb (by rw [hSl]; unfold maxLen; omega); rw [hSl] at this; exact rd_drewN this 1
  have hKX := (hK.below (Nat.le_refl _) e5).drewN 1
  have HE5 : Hid (Below w.heap.size w w5.drew) := e5.drew
  have hg6' : w.heap.size ≤ g6 := hg6
  have hg7' : w.heap.size ≤ g7 := by omega
  clear s1 s2 sB s3 s4 l6 l7 b7 e4 e5 hk5 A9' A9 A6 A7 hb4 hb3 hbB hb2 hb1 hR hRB hK hg6 hg7 hg9 e1 e2
  refine Q.wp_region_facts [0, 1, 2, 3, 4, 5, 6, 7] (Gl [(fEq (.slice (some ⟨g9, 0, none⟩) 32 32)), (fLit w5.heap.size ckey), (fLit w5.heap.size ckey), (fEq (.agg (ic .u8 (hmac S ckey)).toArray)), (fEq (.slice (some ⟨g9, 0, none⟩) 32 32)), (fLit w5.heap.size skey), (fLit w5.heap.size skey), (fEq (.agg (ic .u8 (hmac S skey)).toArray))]) 11 3 (by kernel_rfl) (by kernel_rfl) rfl (by kernel_rfl) (Q.lasts_list ?olst) ?oob ?_
  case olst =>
    intro g hg
    simp only [List.mem_cons, List.not_mem_nil, or_false] at hg
    rcases hg with rfl | rfl | rfl | rfl | rfl | rfl | rfl | rfl
    · exact Q.lasts_eq _
    · exact lasts_lit _ _
    · exact lasts_lit _ _
    · exact Q.lasts_eq _
    · exact Q.lasts_eq _
    · exact lasts_lit _ _
    · exact lasts_lit _ _
    · exact Q.lasts_eq _
  case oob =>
    refine (allIn_cons ?o0 (allIn_cons ?o1 (allIn_cons ?o2 (allIn_cons ?o3 (allIn_cons ?o4 (allIn_cons ?o5 (allIn_cons ?o6 (allIn_cons ?o7 allIn_nil))))))))
    case o0 =>
      refine Q.ob_val 0 rfl rfl (by simp) (fun tm u h => ⟨?ow0, ?_⟩)
      case ow0 => exact wanted_none rfl
      have s9 : tm.getD 9 undef = .pointer (some ⟨g9, 0, none⟩) := h.same 9 (of_decide_eq_true (by kernel_rfl))
      refine ⟨.slice (some ⟨g9, 0, none⟩) 32 32, u, ?_, rfl, Below.refl _ _⟩
      first | (go_simp; done) | (go_simp; rfl)
    case o1 =>
      refine Q.ob_val 1 rfl rfl (by simp) (fun tm u h => ⟨?ow1, ?_⟩)
      case ow1 => exact wanted_none rfl
      refine ⟨.slice (some ⟨u.heap.size, 0, none⟩) ckey.length ckey.length, u.alloc (.cells (bc ckey).toArray 5), ?_, ⟨u.heap.size, (0, 0), rfl, h.s.size, heap_alloc_new _ _⟩, (Below.refl _ _).alloc (Nat.le_refl _) _⟩
      first | (go_simp; done) | (go_simp; rfl) | (go_simp; exact ⟨rfl, rfl⟩)
    case o2 =>
      refine Q.ob_mark 2 rfl rfl (by simp) (fun tm u h => ⟨?ow2, ?_⟩)
      case ow2 => exact wanted_none rfl
      obtain ⟨g1, m1, f1, hB1, hg1⟩ : fLit w5.heap.size ckey (tm.getD 24 undef) u := h.dep 1 _ _ (by simp) rfl rfl ⟨_, rfl, by kernel_rfl⟩
      obtain ⟨m9, hm9⟩ := freeze_self u g1 (bc ckey).toArray.size _ _ _ hg1
      refine ⟨.slice (some ⟨g1, 0, none⟩) ckey.length ckey.length, u.freeze ⟨g1, (bc ckey).toArray.size, none⟩ 1, ?_, ⟨g1, m9, rfl, hB1, hm9⟩, freeze_st hg1 hB1⟩
      exact exec_conv rfl f1 (run_mark u g1 _ m1 _ _ hg1)
    case o3 =>
      refine Q.ob_call 3 rfl rfl (by simp) (fun tm u h => ⟨?ow3, ?_⟩)
      case ow3 => exact wanted_none rfl
      have f0 : tm.getD 23 undef = .slice (some ⟨g9, 0, none⟩) 32 32 := h.dep 0 _ _ (by simp) rfl rfl ⟨_, rfl, by kernel_rfl⟩
      obtain ⟨g2, m2, f2, hB2, hg2⟩ : fLit w5.heap.size ckey (tm.getD 25 undef) u := h.dep 2 _ _ (by simp) rfl rfl ⟨_, rfl, by kernel_rfl⟩
      refine ⟨22, #[.slice (some ⟨g9, 0, none⟩) 32 32, .slice (some ⟨g2, 0, none⟩) ckey.length ckey.length], by first | (go_simp; done) | (go_simp; rfl), ?_⟩
      refine (hmac_any _ 32 32 S _ _ _ ckey u (hS9.carry (Nat.le_refl _) h.s) (by omega) (lit_rd hg2 ckey_bd (by decide)) (by decide) (hKX.below (Nat.le_refl _) h.s)).mono ?_
      rintro e u2 ⟨rfl, hb2⟩
      exact ⟨_, rfl, rfl, hb2⟩
    case o4 =>
      refine Q.ob_val 4 rfl rfl (by simp) (fun tm u h => ⟨?ow4, ?_⟩)
      case ow4 => exact wanted_none rfl
      have s9 : tm.getD 9 undef = .pointer (some ⟨g9, 0, none⟩) := h.same 9 (of_decide_eq_true (by kernel_rfl))
      refine ⟨.slice (some ⟨g9, 0, none⟩) 32 32, u, ?_, rfl, Below.refl _ _⟩
      first | (go_simp; done) | (go_simp; rfl)
    case o5 =>
      refine Q.ob_val 5 rfl rfl (by simp) (fun tm u h => ⟨?ow5, ?_⟩)
      case ow5 => exact wanted_none rfl
      refine ⟨.slice (some ⟨u.heap.size, 0, none⟩) skey.length skey.length, u.alloc (.cells (bc skey).toArray 5), ?_, ⟨u.heap.size, (0, 0), rfl, h.s.size, heap_alloc_new _ _⟩, (Below.refl _ _).alloc (Nat.le_refl _) _⟩
      first | (go_simp; done) | (go_simp; rfl) | (go_simp; exact ⟨rfl, rfl⟩)
    case o6 =>
      refine Q.ob_mark 6 rfl rfl (by simp) (fun tm u h => ⟨?ow6, ?_⟩)
      case ow6 => exact wanted_none rfl
      obtain ⟨g5, m5, f5, hB5, hg5⟩ : fLit w5.heap.size skey (tm.getD 28 undef) u := h.dep 5 _ _ (by simp) rfl rfl ⟨_, rfl, by kernel_rfl⟩
      obtain ⟨m9, hm9⟩ := freeze_self u g5 (bc skey).toArray.size _ _ _ hg5
      refine ⟨.slice (some ⟨g5, 0, none⟩) skey.length skey.length, u.freeze ⟨g5, (bc skey).toArray.size, none⟩ 1, ?_, ⟨g5, m9, rfl, hB5, hm9⟩, freeze_st hg5 hB5⟩
      exact exec_conv rfl f5 (run_mark u g5 _ m5 _ _ hg5)
    case o7 =>
      refine Q.ob_call 7 rfl rfl (by simp) (fun tm u h => ⟨?ow7, ?_⟩)
      case ow7 => exact wanted_none rfl
      have f4 : tm.getD 27 undef = .slice (some ⟨g9, 0, none⟩) 32 32 := h.dep 4 _ _ (by simp) rfl rfl ⟨_, rfl, by kernel_rfl⟩
      obtain ⟨g6, m6, f6, hB6, hg6⟩ : fLit w5.heap.size skey (tm.getD 29 undef) u := h.dep 6 _ _ (by simp) rfl rfl ⟨_, rfl, by kernel_rfl⟩
      refine ⟨22, #[.slice (some ⟨g9, 0, none⟩) 32 32, .slice (some ⟨g6, 0, none⟩) skey.length skey.length], by first | (go_simp; done) | (go_simp; rfl), ?_⟩
      refine (hmac_any _ 32 32 S _ _ _ skey u (hS9.carry (Nat.le_refl _) h.s) (by omega) (lit_rd hg6 skey_bd (by decide)) (by decide) (hKX.below (Nat.le_refl _) h.s)).mono ?_
      rintro e u2 ⟨rfl, hb2⟩
      exact ⟨_, rfl, rfl, hb2⟩
  intro af wf hAO
  have k26 : af.tmps.getD 26 undef = .agg (ic .u8 (hmac S ckey)).toArray := hAO.got 3 _ _ rfl (by simp) rfl rfl
  have k30 : af.tmps.getD 30 undef = .agg (ic .u8 (hmac S skey)).toArray := hAO.got 7 _ _ rfl (by simp) rfl rfl
  have hs := hAO.s
  have p6 : af.tmps.getD 6 undef = .pointer (some ⟨g6, 0, none⟩) := hAO.same 6 (of_decide_eq_true (by kernel_rfl))
  have p7 : af.tmps.getD 7 undef = .pointer (some ⟨g7, 0, none⟩) := hAO.same 7 (of_decide_eq_true (by kernel_rfl))
  obtain ⟨tm, dfx⟩ := af
  obtain rfl : dfx = [] := hAO.df
  have hsz : tm.size = 31 := hAO.sz
  clear hAO
  have eF : tm = #[tm.getD 0 undef, tm.getD 1 undef, tm.getD 2 undef, tm.getD 3 undef, tm.getD 4 undef, tm.getD 5 undef, tm.getD 6 undef, tm.getD 7 undef, tm.getD 8 undef, tm.getD 9 undef, tm.getD 10 undef, tm.getD 11 undef, tm.getD 12 undef, tm.getD 13 undef, tm.getD 14 undef, tm.getD 15 undef, tm.getD 16 undef, tm.getD 17 undef, tm.getD 18 undef, tm.getD 19 undef, tm.getD 20 undef, tm.getD 21 undef, tm.getD 22 undef, tm.getD 23 undef, tm.getD 24 undef, tm.getD 25 undef, tm.getD 26 undef, tm.getD 27 undef, tm.getD 28 undef, tm.getD 29 undef, tm.getD 30 undef] := eta_arr tm 31 hsz
  try dsimp only at eF
  have kF6 : tm.getD 6 undef = .pointer (some ⟨g6, 0, none⟩) := p6
  have kF7 : tm.getD 7 undef = .pointer (some ⟨g7, 0, none⟩) := p7
  have kF26 : tm.getD 26 undef = .agg (ic .u8 (hmac S ckey)).toArray := k26
  have kF30 : tm.getD 30 undef = .agg (ic .u8 (hmac S skey)).toArray := k30
  rw [kF6, kF7, kF26, kF30] at eF
  clear kF6 kF7 kF26 kF30
  generalize tm.getD 0 undef = vF0 at eF
  generalize tm.getD 1 undef = vF1 at eF
  generalize tm.getD 2 undef = vF2 at eF
  generalize tm.getD 3 undef = vF3 at eF
  generalize tm.getD 4 undef = vF4 at eF
  generalize tm.getD 5 undef = vF5 at eF
  generalize tm.getD 8 undef = vF8 at eF
  generalize tm.getD 9 undef = vF9 at eF
  generalize tm.getD 10 undef = vF10 at eF
  generalize tm.getD 11 undef = vF11 at eF
  generalize tm.getD 12 undef = vF12 at eF
  generalize tm.getD 13 undef = vF13 at eF
  generalize tm.getD 14 undef = vF14 at eF
  generalize tm.getD 15 undef = vF15 at eF
  generalize tm.getD 16 undef = vF16 at eF
  generalize tm.getD 17 undef = vF17 at eF
  generalize tm.getD 18 undef = vF18 at eF
  generalize tm.getD 19 undef = vF19 at eF
  generalize tm.getD 20 undef = vF20 at eF
  generalize tm.getD 21 undef = vF21 at eF
  generalize tm.getD 22 undef = vF22 at eF
  generalize tm.getD 23 undef = vF23 at eF
  generalize tm.getD 24 undef = vF24 at eF
  generalize tm.getD 25 undef = vF25 at eF
  generalize tm.getD 27 undef = vF27 at eF
  generalize tm.getD 28 undef = vF28 at eF
  generalize tm.getD 29 undef = vF29 at eF
  subst eF
  have hl1 : (hmac S ckey).length = 32 := hmac_len _ _
  have hl2 : (hmac S skey).length = 32 := hmac_len _ _
  have B6 := A6X.below hs A6X.lt
  have B7 := A7X.below hs A7X.lt
  refine lx_one 8 (by kernel_rfl) (stepT_store (w' := wf.setRow g6 (ic .u8 (hmac S ckey)).toArray) rfl rfl rfl ?rs (fun _ => trivial) ?_)
  case rs => exact exec_store_ar 27 (.tmp 6) (.tmp 26) rfl g6 rfl .u8 (hmac S ckey) rfl 27 _ B6 (by rw [hl1]; rfl) (by rw [hl1]; exact hi23)
  have hk1 : Keep (fun j => j = g6) wf (wf.setRow g6 (ic .u8 (hmac S ckey)).toArray) := ⟨rfl, rfl, rfl, by simp, fun j _ hj => setRow_other wf g6 j _ hj⟩
  have C6 : Ar (wf.setRow g6 (ic .u8 (hmac S ckey)).toArray) g6 27 .u8 (hmac S ckey) := B6.row
  have C7 := B7.keep hk1 (fun e => n67 e.symm)
  generalize wf.setRow g6 (ic .u8 (hmac S ckey)).toArray = wg at hk1 C6 C7 ⊢
  refine lx_one 9 (by kernel_rfl) (stepT_store (w' := wg.setRow g7 (ic .u8 (hmac S skey)).toArray) rfl rfl rfl ?rt (fun _ => trivial) ?_)
  case rt => exact exec_store_ar 27 (.tmp 7) (.tmp 30) rfl g7 rfl .u8 (hmac S skey) rfl 27 _ C7 (by rw [hl2]; rfl) (by rw [hl2]; exact hi23)
  have hk2 : Keep (fun j => j = g7) wg (wg.setRow g7 (ic .u8 (hmac S skey)).toArray) := ⟨rfl, rfl, rfl, by simp, fun j _ hj => setRow_other wg g7 j _ hj⟩
  have D7 : Ar (wg.setRow g7 (ic .u8 (hmac S skey)).toArray) g7 27 .u8 (hmac S skey) := C7.row
  have D6 := C6.keep hk2 n67
  generalize wg.setRow g7 (ic .u8 (hmac S skey)).toArray = wh at hk2 D6 D7 ⊢
  refine lx_one 10 (by kernel_rfl) (stepT_val (w' := wh) (.int .i64 0) rfl rfl rfl ?ru (fun _ => trivial) ?_)
  case ru => first | (go_simp; done) | (go_simp; rfl)
  refine lx_nil (by kernel_rfl) ?_
  simp only [List.setIfInBounds_toArray, List.set_cons_zero, List.set_cons_succ]
  have f1 := HE5.out.trans (hs.mono HE5.out.size)
  have f2 := f1.trans (hk1.below f1.size (fun q hq => by omega))
  have f3 := f2.trans (hk2.below f2.size (fun q hq => by omega))
  go_wp2
  exact bodyPost_ret (results_two Tryz.results26 _ _ g6 g7 27 .u8 _ _ 5 32 (.int .i64 0) rfl rfl rfl D6 D7 Tryz.u23 hl1 hl2) rfl ⟨rfl, f3⟩

set_option maxRecDepth 100000 in
set_option maxHeartbeats 1600000 in
theorem pwKeys_bad (P : Tx) (a : Option Addr) (n c : Nat) (N : Int) (w : World) (hP : P.length ≤ 10000) (hN : N < 1 ∨ 4096 < N) :
    Calls Tryz.prog 26 #[.string ⟨P.toArray⟩, .slice a n c, .int .i64 N] w fun e w' => e = .returned (.tuple #[.agg (ic .u8 (List.replicate 32 0)).toArray, .agg (ic .u8 (List.replicate 32 0)).toArray, .int .i64 3]) ∧ Below w.heap.size w w' := by
  have hi23 := (size_of Tryz.u23).2
  have hz23 : Tryz.prog.built 27 [] = some (ic .u8 (List.replicate 32 0)).toArray := by kernel_rfl
  obtain ⟨Z, HZ⟩ : ∃ Z : List Int, Hid (List.replicate 32 0 = Z) := ⟨_, rfl⟩
  have hZl : Z.length = 32 := by rw [← HZ.out]; rfl
  have hz23' := Tryz.z23
  have cH := fun (a : Option Addr) (n c : Nat) (a' : Option Addr) (n' c' : Nat) (w : World) => hi_bad a n c a' n' c' N w hN
  rw [HZ.out] at hz23 hz23' cH ⊢
  have tk1 : True := trivial
  have tk2 : True := trivial
  have tk3 : True := trivial
  have tk4 : True := trivial
  go_enter Tryz.func26, Tryz.ntmps26
  go_wp2_with (first
    | (clear tk1; refine wp_alloc_ar rfl 27 rfl .u8 Z 32 hz23' ?_; intro g6 w1 A6 hg6 hb1)
    | (clear tk2; refine wp_alloc_ar rfl 27 rfl .u8 Z 32 hz23' ?_; intro g7 w2 A7 hg7 hb2; obtain ⟨cB, wB, hcv, hRB, hbB⟩ := bytes_tx P w2 (by omega); have e1 := hb1.trans (hb2.mono hb1.size); have e2 := e1.trans (hbB.mono e1.size))
    | (refine wp_build_ar rfl 27 rfl .u8 Z hz23 ?_)
    | (go_at_call 54; refine (cH _ _ _ _ _ _ _).mono ?_; rintro e w3 ⟨rfl, hb3⟩; clear hcv)
    | (refine wp_alloc_ar rfl 27 rfl .u8 Z 32 hz23' ?_; intro g9 w4 A9 hg9 hb4)
    | (clear tk3; refine wp_store_ar rfl 27 (.tmp 9) (.tmp 16) rfl g9 rfl .u8 Z rfl 27 _ A9 rfl (by rw [hZl]; exact hi23) ?_; intro w5 A9' hk5 hs5; have s1 := hb1.size; have s2 := hb2.size; have sB := hbB.size; have s3 := hb3.size; have s4 := hb4.size; have l6 := A6.lt; have l7 := A7.lt; have b7 : Below w2.heap.size w2 w4 := (hbB.trans (hb3.mono sB)).trans (hb4.mono (Nat.le_trans sB s3)); have A6X := ((A6.below hb2 l6).below b7 (by omega)).keep hk5 (by omega); have A7X := (A7.below b7 l7).keep hk5 (by omega))
    | (clear tk4; refine wp_store_ar rfl 27 (.tmp 6) (.tmp 20) rfl g6 rfl .u8 Z rfl 27 _ A6X rfl (by rw [hZl]; exact hi23) ?_; intro w6 A6' hk6 hs6; have A7Y := A7X.keep hk6 (by omega))
    | (refine wp_store_ar rfl 27 (.tmp 7) (.tmp 21) rfl g7 rfl .u8 Z rfl 27 _ A7Y rfl (by rw [hZl]; exact hi23) ?_; intro w7 A7' hk7 hs7; have A6Z := A6'.keep hk7 (by omega)))
  have e4 : Below w.heap.size w w4 := e1.trans (b7.mono e1.size)
  have e5 : Below w.heap.size w w5 := e4.trans (hk5.below e4.size (fun q hq => by omega))
  have e6 : Below w.heap.size w w6 := e5.trans (hk6.below e5.size (fun q hq => by omega))
  have e7 : Below w.heap.size w w7 := e6.trans (hk7.below e6.size (fun q hq => by omega))
  exact bodyPost_ret (results_two Tryz.results26 _ _ g6 g7 27 .u8 _ _ 5 32 (.int .i64 3) rfl rfl rfl A6Z A7' Tryz.u23 hZl hZl) rfl ⟨rfl, e7⟩
end Go.Proofs.YtmilcknboaefkaaGreatDoor

/- scram.Keys. -/
namespace Go.Proofs.YtmilcknboaefkaaGreatDoor
open Go.RowKit

theorem sha_bd (xs : List Int) : Bd (sha xs) := shaB_bd _ _ _

set_option maxRecDepth 100000 in
set_option maxHeartbeats 1600000 in
theorem keys_ok (P : Tx) (a : Option Addr) (n c : Nat) (ss : List Int) (N : Nat) (w : World) (hP : P.length ≤ 10000) (hR : Rd w a n c ss) (hn : n ≤ 10000) (hN1 : 1 ≤ N) (hN2 : N ≤ 4096) (hK : Kt w) :
    Calls Tryz.prog 8 #[.string ⟨P.toArray⟩, .slice a n c, .int .i64 (N : Int)] w fun e w' => e = .returned (.tuple #[.agg (ic .u8 (sha (hmac (sumK (il P) ss (N - 1)) ckey))).toArray, .agg (ic .u8 (hmac (sumK (il P) ss (N - 1)) skey)).toArray, .int .i64 0]) ∧ Below w.heap.size w w' := by
  have hi23 := (size_of Tryz.u23).2
  obtain ⟨S, HS⟩ : ∃ S, Hid (sumK (il P) ss (N - 1) = S) := ⟨_, rfl⟩
  rw [HS.out]
  obtain ⟨K, HK⟩ := hidE (hmac S ckey)
  obtain ⟨V, HV⟩ := hidE (hmac S skey)
  have hKl : K.length = 32 := by rw [← HK.out]; exact hmac_len _ _
  have hKb : Bd K := by rw [← HK.out]; exact hmac_bd _ _
  have hVl : V.length = 32 := by rw [← HV.out]; exact hmac_len _ _
  have cP := fun (w1 : World) (h : Below w.heap.size w w1) => pwKeys_ok P a n c ss N w1 hP (hR.carry (Nat.le_refl _) h) hn hN1 hN2 (hK.below (Nat.le_refl _) h)
  rw [HS.out, HK.out, HV.out] at cP
  rw [HK.out, HV.out]
  have tk1 : True := trivial
  have tk2 : True := trivial
  have tk3 : True := trivial
  go_enter Tryz.func8, Tryz.ntmps8
  go_wp2_with (first
    | (clear tk1; refine wp_alloc_ar rfl 27 rfl .u8 (List.replicate 32 0) 32 Tryz.z23 ?_; intro g6 w1 A6 hg6 hb1)
    | (clear tk2; refine wp_alloc_ar rfl 27 rfl .u8 (List.replicate 32 0) 32 Tryz.z23 ?_; intro g7 w2 A7 hg7 hb2; have e2 := hb1.trans (hb2.mono hb1.size))
    | (go_at_call 26; refine (cP _ e2).mono ?_; rintro e w3 ⟨rfl, hb3⟩)
    | (refine wp_alloc_ar rfl 27 rfl .u8 (List.replicate 32 0) 32 Tryz.z23 ?_; intro g9 w4 A9 hg9 hb4; have s1 := hb1.size; have s2 := hb2.size; have s3 := hb3.size; have s4 := hb4.size; have l6 := A6.lt; have l7 := A7.lt; have b4 : Below w2.heap.size w2 w4 := hb3.trans (hb4.mono s3); have A6' := (A6.below hb2 l6).below b4 (by omega); have A7' := A7.below b4 l7)
    | (clear tk3; refine wp_store_ar rfl 27 (.tmp 9) (.tmp 15) rfl g9 rfl .u8 K rfl 27 _ A9 (by rw [hKl]; rfl) (by rw [hKl]; exact hi23) ?_; intro w5 A9' hk5 hs5; clear hs5; have A6a := A6'.keep hk5 (by omega); have A7a := A7'.keep hk5 (by omega))
    | (refine wp_store_ar rfl 27 (.tmp 7) (.tmp 16) rfl g7 rfl .u8 V rfl 27 _ A7a (by rw [hVl]; rfl) (by rw [hVl]; exact hi23) ?_; intro w6 A7b hk6 hs6; clear hs6; have A6b := A6a.keep hk6 (by omega); have A9b := A9'.keep hk6 (by omega)))
  have e4 : Below w.heap.size w w4 := e2.trans (b4.mono e2.size)
  have e5 : Below w.heap.size w w5 := e4.trans (hk5.below e4.size (fun q hq => by omega))
  have e6 : Below w.heap.size w w6 := e5.trans (hk6.below e5.size (fun q hq => by omega))
  have n67 : ¬ g6 = g7 := by omega
  have A6X : Ar w6.drew g6 27 .u8 (List.replicate 32 0) := A6b
  have A7X : Ar w6.drew g7 27 .u8 V := A7b
  have hS9 : Rd w6.drew (some ⟨g9, 0, none⟩) 32 32 K := by have := rd_row A9b hKb (by rw [hKl]; unfold maxLen; omega); rw [hKl] at this; exact rd_drewN this 1
  have hKX : Kt w6.drew := (hK.below (Nat.le_refl _) e6).drewN 1
  have HE : Hid (Below w.heap.size w w6.drew) := e6.drew
  have hg6' : w.heap.size ≤ g6 := hg6
  have hg7' : w.heap.size ≤ g7 := by omega
  clear s1 s2 s3 s4 l6 l7 b4 e4 e5 e6 hk5 hk6 A9b A9' A9 A6 A7 A6' A7' A6a A7a A6b A7b hb4 hb3 hb2 hb1 hR hK hg6 hg7 hg9 e2 cP
  refine wp_region_lx (fun w' => Ar w' g7 27 .u8 V) [] 6 (by kernel_rfl) (by kernel_rfl) ?_
  have HS7 := A7X
  generalize w6.drew = W at HS7 A6X A7X hS9 hKX HE ⊢
  refine lx_rd 0 (.slice (some ⟨g9, 0, none⟩) 32 32) (by kernel_rfl) (fun _ _ d _ _ h => by cases d <;> exact h) (by kernel_rfl) HS7 rfl rfl rfl (fun w' hS => ?hR0) ?_
  case hR0 => first | (go_simp; rfl) | go_simp
  simp only [List.setIfInBounds_toArray, List.set_cons_zero, List.set_cons_succ]
  refine lx_rd 2 (.agg (ic .u8 V).toArray) (by kernel_rfl) (fun _ _ d _ _ h => by cases d <;> exact h) (by kernel_rfl) HS7 rfl rfl rfl (fun w' hS => ?hR2) ?_
  case hR2 => exact exec_load_ar 27 (.tmp 7) rfl g7 rfl 27 .u8 V 5 32 hS Tryz.u23 hVl
  simp only [List.setIfInBounds_toArray, List.set_cons_zero, List.set_cons_succ]
  refine lx_one 1 (by kernel_rfl) (stepT_call 25 #[.slice (some ⟨g9, 0, none⟩) 32 32] rfl rfl rfl ?r1 ?_)
  case r1 => first | (go_simp; rfl) | go_simp
  refine (sha_any _ 32 32 K W hS9 (by omega) hKX).mono ?_
  rintro e wf ⟨rfl, hs⟩
  have B6 := A6X.below hs A6X.lt
  have B7 := A7X.below hs A7X.lt
  refine ⟨_, rfl, fun _ => B7, ?_⟩
  simp only [List.setIfInBounds_toArray, List.set_cons_zero, List.set_cons_succ]
  have hl1 : (sha K).length = 32 := shaB_len _ _ _
  refine lx_one 3 (by kernel_rfl) (stepT_store (w' := wf.setRow g6 (ic .u8 (sha K)).toArray) rfl rfl rfl ?rs (fun _ => B7.keep ⟨rfl, rfl, rfl, by simp, fun j _ hj => setRow_other wf g6 j _ hj⟩ (fun e => n67 e.symm)) ?_)
  case rs => exact exec_store_ar 27 (.tmp 6) (.tmp 24) rfl g6 rfl .u8 (sha K) rfl 27 _ B6 (by rw [hl1]; rfl) (by rw [hl1]; exact hi23)
  have hk1 : Keep (fun j => j = g6) wf (wf.setRow g6 (ic .u8 (sha K)).toArray) := ⟨rfl, rfl, rfl, by simp, fun j _ hj => setRow_other wf g6 j _ hj⟩
  have C6 : Ar (wf.setRow g6 (ic .u8 (sha K)).toArray) g6 27 .u8 (sha K) := B6.row
  have C7 := B7.keep hk1 (fun e => n67 e.symm)
  generalize wf.setRow g6 (ic .u8 (sha K)).toArray = wg at hk1 C6 C7 ⊢
  refine lx_one 4 (by kernel_rfl) (stepT_store (w' := wg.setRow g7 (ic .u8 V).toArray) rfl rfl rfl ?rt (fun _ => C7.row) ?_)
  case rt => exact exec_store_ar 27 (.tmp 7) (.tmp 25) rfl g7 rfl .u8 V rfl 27 _ C7 (by rw [hVl]) (by rw [hVl]; exact hi23)
  have hk2 : Keep (fun j => j = g7) wg (wg.setRow g7 (ic .u8 V).toArray) := ⟨rfl, rfl, rfl, by simp, fun j _ hj => setRow_other wg g7 j _ hj⟩
  have D7 : Ar (wg.setRow g7 (ic .u8 V).toArray) g7 27 .u8 V := C7.row
  have D6 := C6.keep hk2 n67
  generalize wg.setRow g7 (ic .u8 V).toArray = wh at hk2 D6 D7 ⊢
  refine lx_one 5 (by kernel_rfl) (stepT_val (w' := wh) (.int .i64 0) rfl rfl rfl ?ru (fun _ => D7) ?_)
  case ru => first | (go_simp; done) | (go_simp; rfl)
  refine lx_nil (by kernel_rfl) ?_
  simp only [List.setIfInBounds_toArray, List.set_cons_zero, List.set_cons_succ]
  have f1 := HE.out.trans (hs.mono HE.out.size)
  have f2 := f1.trans (hk1.below f1.size (fun q hq => by omega))
  have f3 := f2.trans (hk2.below f2.size (fun q hq => by omega))
  go_wp2
  exact bodyPost_ret (results_two Tryz.results8 _ _ g6 g7 27 .u8 _ _ 5 32 (.int .i64 0) rfl rfl rfl D6 D7 Tryz.u23 hl1 hVl) rfl ⟨rfl, f3⟩

set_option maxRecDepth 100000 in
set_option maxHeartbeats 1600000 in
theorem keys_bad (P : Tx) (a : Option Addr) (n c : Nat) (N : Int) (w : World) (hP : P.length ≤ 10000) (hN : N < 1 ∨ 4096 < N) :
    Calls Tryz.prog 8 #[.string ⟨P.toArray⟩, .slice a n c, .int .i64 N] w fun e w' => e = .returned (.tuple #[.agg (ic .u8 (List.replicate 32 0)).toArray, .agg (ic .u8 (List.replicate 32 0)).toArray, .int .i64 3]) ∧ Below w.heap.size w w' := by
  have hi23 := (size_of Tryz.u23).2
  have hz23 : Tryz.prog.built 27 [] = some (ic .u8 (List.replicate 32 0)).toArray := by kernel_rfl
  obtain ⟨Z, HZ⟩ : ∃ Z : List Int, Hid (List.replicate 32 0 = Z) := ⟨_, rfl⟩
  have hZl : Z.length = 32 := by rw [← HZ.out]; rfl
  have hz23' := Tryz.z23
  have cP := fun (w1 : World) => pwKeys_bad P a n c N w1 hP hN
  rw [HZ.out] at hz23 hz23' cP ⊢
  have tk1 : True := trivial
  have tk2 : True := trivial
  have tk3 : True := trivial
  have tk4 : True := trivial
  have tk5 : True := trivial
  go_enter Tryz.func8, Tryz.ntmps8
  go_wp2_with (first
    | (clear tk1; refine wp_alloc_ar rfl 27 rfl .u8 Z 32 hz23' ?_; intro g6 w1 A6 hg6 hb1)
    | (clear tk2; refine wp_alloc_ar rfl 27 rfl .u8 Z 32 hz23' ?_; intro g7 w2 A7 hg7 hb2; have e2 := hb1.trans (hb2.mono hb1.size))
    | (go_at_call 26; refine (cP _).mono ?_; rintro e w3 ⟨rfl, hb3⟩)
    | (refine wp_build_ar rfl 27 rfl .u8 Z hz23 ?_)
    | (refine wp_alloc_ar rfl 27 rfl .u8 Z 32 hz23' ?_; intro g9 w4 A9 hg9 hb4; have s1 := hb1.size; have s2 := hb2.size; have s3 := hb3.size; have s4 := hb4.size; have l6 := A6.lt; have l7 := A7.lt; have b4 : Below w2.heap.size w2 w4 := hb3.trans (hb4.mono s3); have A6' := (A6.below hb2 l6).below b4 (by omega); have A7' := A7.below b4 l7)
    | (clear tk3; refine wp_store_ar rfl 27 (.tmp 9) (.tmp 15) rfl g9 rfl .u8 Z rfl 27 _ A9 rfl (by rw [hZl]; exact hi23) ?_; intro w5 A9' hk5 hs5; clear hs5; have A6a := A6'.keep hk5 (by omega); have A7a := A7'.keep hk5 (by omega))
    | (clear tk4; refine wp_store_ar rfl 27 (.tmp 7) (.tmp 16) rfl g7 rfl .u8 Z rfl 27 _ A7a rfl (by rw [hZl]; exact hi23) ?_; intro w6 A7b hk6 hs6; clear hs6; have A6b := A6a.keep hk6 (by omega))
    | (clear tk5; refine wp_store_ar rfl 27 (.tmp 6) (.tmp 20) rfl g6 rfl .u8 Z rfl 27 _ A6b rfl (by rw [hZl]; exact hi23) ?_; intro w7 A6c hk7 hs7; clear hs7; have A7c := A7b.keep hk7 (by omega))
    | (refine wp_store_ar rfl 27 (.tmp 7) (.tmp 21) rfl g7 rfl .u8 Z rfl 27 _ A7c rfl (by rw [hZl]; exact hi23) ?_; intro w8 A7d hk8 hs8; clear hs8; have A6d := A6c.keep hk8 (by omega)))
  have e4 : Below w.heap.size w w4 := e2.trans (b4.mono e2.size)
  have e5 : Below w.heap.size w w5 := e4.trans (hk5.below e4.size (fun q hq => by omega))
  have e6 : Below w.heap.size w w6 := e5.trans (hk6.below e5.size (fun q hq => by omega))
  have e7 : Below w.heap.size w w7 := e6.trans (hk7.below e6.size (fun q hq => by omega))
  have e8 : Below w.heap.size w w8 := e7.trans (hk8.below e7.size (fun q hq => by omega))
  exact bodyPost_ret (results_two Tryz.results8 _ _ g6 g7 27 .u8 _ _ 5 32 (.int .i64 3) rfl rfl rfl A6d A7d Tryz.u23 hZl hZl) rfl ⟨rfl, e8⟩
end Go.Proofs.YtmilcknboaefkaaGreatDoor

/- The document's Keys. -/
namespace Go.Proofs.YtmilcknboaefkaaGreatDoor
open Go.RowKit

set_option maxRecDepth 100000 in
set_option maxHeartbeats 800000 in
theorem refHi_bad (a : Option Addr) (n c : Nat) (a' : Option Addr) (n' c' : Nat) (N : Int) (w : World) (hN : N < 1 ∨ 4096 < N) :
    Calls Tryz.prog 28 #[.slice a n c, .slice a' n' c', .int .i64 N] w fun e w' => e = .returned (.tuple #[.agg (ic .u8 (List.replicate 32 0)).toArray, .int .i64 3]) ∧ Below w.heap.size w w' := by
  have hi23 := (size_of Tryz.u23).2
  have hz23 : Tryz.prog.built 27 [] = some (ic .u8 (List.replicate 32 0)).toArray := by kernel_rfl
  rcases hN with hN | hN
  · go_enter Tryz.func28, Tryz.ntmps28
    go_wp2_with (first
      | (refine wp_alloc_ar rfl 27 rfl .u8 (List.replicate 32 0) 32 Tryz.z23 ?_; intro g1 w1 A1 hg1 hb1)
      | (refine wp_build_ar rfl 27 rfl .u8 (List.replicate 32 0) hz23 ?_)
      | (refine wp_store_ar rfl 27 (.tmp 6) (.tmp 17) rfl g1 rfl .u8 (List.replicate 32 0) rfl 27 _ A1 rfl (by simpa using hi23) ?_; intro w2 A2 hk2 hs2))
    exact bodyPost_ret (results_hi rfl _ _ g1 27 .u8 _ 5 32 _ rfl rfl A2 Tryz.u23 rfl) rfl ⟨rfl, hb1.trans (hk2.below hb1.size (fun q hq => by omega))⟩
  · have hN1 : ¬ N < 1 := by omega
    go_enter Tryz.func28, Tryz.ntmps28
    go_wp2_with (first
      | (refine wp_alloc_ar rfl 27 rfl .u8 (List.replicate 32 0) 32 Tryz.z23 ?_; intro g1 w1 A1 hg1 hb1)
      | (refine wp_build_ar rfl 27 rfl .u8 (List.replicate 32 0) hz23 ?_)
      | (refine wp_store_ar rfl 27 (.tmp 6) (.tmp 17) rfl g1 rfl .u8 (List.replicate 32 0) rfl 27 _ A1 rfl (by simpa using hi23) ?_; intro w2 A2 hk2 hs2))
    exact bodyPost_ret (results_hi rfl _ _ g1 27 .u8 _ 5 32 _ rfl rfl A2 Tryz.u23 rfl) rfl ⟨rfl, hb1.trans (hk2.below hb1.size (fun q hq => by omega))⟩


theorem results_three {P : Program} {fn : Func} {p q r t : Tmp} {ty : TypeId} (h : fn.results = #[.cell p ty, .cell q ty, .cell r ty, .tmp t]) (tmps : Array Value) (w : World) (g g' g'' : Nat) (tt : TypeId) (k : IntKind) (xs ys zs : List Int) (e : TypeId) (n : Nat) (v : Value)
    (hp : tmps.getD p undef = .pointer (some ⟨g, 0, none⟩)) (hq : tmps.getD q undef = .pointer (some ⟨g', 0, none⟩)) (hr : tmps.getD r undef = .pointer (some ⟨g'', 0, none⟩)) (ht : tmps.getD t undef = v) (hg : Ar w g tt k xs) (hg' : Ar w g' tt k ys) (hg'' : Ar w g'' tt k zs) (hu : (P.underlying ty, (P.info? ty).map (·.size)) = (some (.array n e), some n)) (hn : xs.length = n) (hn' : ys.length = n) (hn'' : zs.length = n) :
    (results fn tmps).run P w = .ok (.tuple #[.agg (ic k xs).toArray, .agg (ic k ys).toArray, .agg (ic k zs).toArray, v]) w := by
  have hl := run_loadVar_row w g tt ty _ (0, 0) _ hg (size_of hu).1 rfl (by rw [(size_of hu).2]; simp [ic_len, hn])
  have hl' := run_loadVar_row w g' tt ty _ (0, 0) _ hg' (size_of hu).1 rfl (by rw [(size_of hu).2]; simp [ic_len, hn'])
  have hl'' := run_loadVar_row w g'' tt ty _ (0, 0) _ hg'' (size_of hu).1 rfl (by rw [(size_of hu).2]; simp [ic_len, hn''])
  have hp' : tmps[p]?.getD undef = .pointer (some ⟨g, 0, none⟩) := by simpa using hp
  have hq' : tmps[q]?.getD undef = .pointer (some ⟨g', 0, none⟩) := by simpa using hq
  have hr' : tmps[r]?.getD undef = .pointer (some ⟨g'', 0, none⟩) := by simpa using hr
  have ht' : tmps[t]?.getD undef = v := by simpa using ht
  simp [results, h, hp', hq', hr', ht', asAddr, hl, hl', hl'']

theorem mark_lit (X : List Int) (u : World) : ∃ u' m, (convert 22 22 (.slice (some ⟨u.heap.size, 0, none⟩) X.length X.length)).run Tryz.prog (u.alloc (.cells (bc X).toArray 5)) = .ok (.slice (some ⟨u.heap.size, 0, none⟩) X.length X.length) u' ∧ u'.heap[u.heap.size]? = some (.cells (bc X).toArray 5 m) ∧ Below u.heap.size u u' := by
  have hg : (u.alloc (.cells (bc X).toArray 5)).heap[u.heap.size]? = some (.cells (bc X).toArray 5 (0, 0)) := heap_alloc_new _ _
  obtain ⟨m', hm⟩ := freeze_self _ u.heap.size (bc X).toArray.size _ _ _ hg
  exact ⟨_, m', run_mark _ _ _ _ _ _ hg, hm, ((Below.refl _ _).alloc (Nat.le_refl _) _).trans ((freeze_st (W := u) hg (Nat.le_refl _)).1)⟩
/-- A literal's mark, behind other steps. -/
theorem mark_mid (X : List Int) (u0 u : World) (g : Nat) (m : Nat × Nat) (h0 : u0.heap.size ≤ g) (hg : u.heap[g]? = some (.cells (bc X).toArray 5 m)) : ∃ u' m', (convert 22 22 (.slice (some ⟨g, 0, none⟩) X.length X.length)).run Tryz.prog u = .ok (.slice (some ⟨g, 0, none⟩) X.length X.length) u' ∧ u'.heap[g]? = some (.cells (bc X).toArray 5 m') ∧ Below u0.heap.size u u' := by
  obtain ⟨m', hm⟩ := freeze_self _ g (bc X).toArray.size _ _ _ hg
  exact ⟨_, m', run_mark _ _ _ _ _ _ hg, hm, (freeze_st (W := u0) hg h0).1⟩

set_option maxRecDepth 100000 in
set_option maxHeartbeats 1600000 in
theorem refKeys_ok (P : Tx) (a : Option Addr) (n c : Nat) (ss : List Int) (N : Nat) (w : World) (hP : P.length ≤ 10000) (hR : Rd w a n c ss) (hn : n ≤ 10000) (hN1 : 1 ≤ N) (hN2 : N ≤ 4096) :
    Calls Tryz.prog 10 #[.string ⟨P.toArray⟩, .slice a n c, .int .i64 (N : Int)] w fun e w' => e = .returned (.tuple #[.agg (ic .u8 (sha (hmac (sumK (il P) ss (N - 1)) ckey))).toArray, .agg (ic .u8 (hmac (sumK (il P) ss (N - 1)) skey)).toArray, .agg (ic .u8 (hmac (sumK (il P) ss (N - 1)) ckey)).toArray, .int .i64 0]) ∧ Below w.heap.size w w' := by
  have hi23 := (size_of Tryz.u23).2
  have hlP := il_len P
  obtain ⟨S, HS⟩ : ∃ S, Hid (sumK (il P) ss (N - 1) = S) := ⟨_, rfl⟩
  have hSl : S.length = 32 := by rw [← HS.out]; exact sumK_len _ _ _
  have hSb : Bd S := by rw [← HS.out]; exact sumK_bd _ _ _
  rw [HS.out]
  obtain ⟨K, HK⟩ := hidE (hmac S ckey)
  obtain ⟨V, HV⟩ := hidE (hmac S skey)
  have hKl : K.length = 32 := by rw [← HK.out]; exact hmac_len _ _
  have hKb : Bd K := by rw [← HK.out]; exact hmac_bd _ _
  have hVl : V.length = 32 := by rw [← HV.out]; exact hmac_len _ _
  have cH1 := fun (w1 : World) (g : Nat) (m : Nat × Nat) (g0 : Nat) (h : Rd w1 (some ⟨g0, 0, none⟩) 32 32 S) (hg : w1.heap[g]? = some (.cells (bc ckey).toArray 5 m)) => refHmac_any _ 32 32 S _ _ _ ckey w1 h (by omega) (lit_rd hg ckey_bd (by decide)) (by decide)
  have cH2 := fun (w1 : World) (g : Nat) (m : Nat × Nat) (g0 : Nat) (h : Rd w1 (some ⟨g0, 0, none⟩) 32 32 S) (hg : w1.heap[g]? = some (.cells (bc skey).toArray 5 m)) => refHmac_any _ 32 32 S _ _ _ skey w1 h (by omega) (lit_rd hg skey_bd (by decide)) (by decide)
  rw [HK.out] at cH1
  rw [HV.out] at cH2
  rw [HK.out, HV.out]
  have tk1 : True := trivial
  have tk2 : True := trivial
  have tk3 : True := trivial
  have tk4 : True := trivial
  go_enter Tryz.func10, Tryz.ntmps10
  go_wp2_with (first
    | (clear tk1; refine wp_alloc_ar rfl 27 rfl .u8 (List.replicate 32 0) 32 Tryz.z23 ?_; intro g6 w1 A6 hg6 hb1)
    | (clear tk2; refine wp_alloc_ar rfl 27 rfl .u8 (List.replicate 32 0) 32 Tryz.z23 ?_; intro g7 w2 A7 hg7 hb2; have e2 := hb1.trans (hb2.mono hb1.size); have l6 := A6.lt; have l7 := A7.lt; have A6' := A6.below hb2 l6)
    | (clear tk3; refine wp_alloc_ar rfl 27 rfl .u8 (List.replicate 32 0) 32 Tryz.z23 ?_; intro g8 w3 A8 hg8 hb3; obtain ⟨cB, wB, hcv, hRB, hbB⟩ := bytes_tx P w3 (by omega); have s1 := hb1.size; have s2 := hb2.size; have s3 := hb3.size; have l8 := A8.lt; have e3 := e2.trans (hb3.mono e2.size); have eB := e3.trans (hbB.mono e3.size); have A6a := A6'.below hb3 (by omega); have A7a := A7.below hb3 l7)
    | (go_at_call 28; refine (refHi_any _ _ _ (il P) a n c ss N _ hRB (by omega) (hR.carry (Nat.le_refl _) eB) hn hN1 hN2).mono ?_; rw [HS.out]; rintro e w4 ⟨rfl, hb4⟩; clear hcv; have b4 := hbB.trans (hb4.mono hbB.size); clear hb4 hbB hRB)
    | (clear tk4; refine wp_alloc_ar rfl 27 rfl .u8 (List.replicate 32 0) 32 Tryz.z23 ?_; intro gA w5 AA hgA hb5; have b5 := b4.trans (hb5.mono b4.size); have s4 := b4.size; have s5 := hb5.size; have A6b := A6a.below b5 (by omega); have A7b := A7a.below b5 (by omega); have A8b := A8.below b5 l8)
    | (refine wp_store_ar rfl 27 (.tmp 10) (.tmp 19) rfl gA rfl .u8 S rfl 27 _ AA (by rw [hSl]; rfl) (by rw [hSl]; exact hi23) ?_; intro w6 AA' hk6 hs6; clear hs6; have z6 := hk6.size; obtain ⟨w7, m7, hm7, hL7, hb7⟩ := mark_lit ckey w6; have hm7' : (convert 22 22 (.slice (some ⟨w6.heap.size, 0, none⟩) 10 10)).run Tryz.prog (w6.alloc (.cells #[.int .u8 67, .int .u8 108, .int .u8 105, .int .u8 101, .int .u8 110, .int .u8 116, .int .u8 32, .int .u8 75, .int .u8 101, .int .u8 121] 5)) = .ok (.slice (some ⟨w6.heap.size, 0, none⟩) 10 10) w7 := hm7; clear hm7; have A6c := (A6b.keep hk6 (by omega)); have A7c := (A7b.keep hk6 (by omega)); have A8c := (A8b.keep hk6 (by omega)))
    | (go_at_call 29; clear hm7'; have hRA : Rd w7 (some ⟨gA, 0, none⟩) 32 32 S := by (have := rd_row (AA'.below hb7 AA'.lt) hSb (by rw [hSl]; unfold maxLen; omega); rw [hSl] at this; exact this)
       refine (cH1 w7 w6.heap.size m7 gA hRA hL7).mono ?_; rintro e w8 ⟨rfl, hb8⟩; clear hRA hL7; have b8 := hb7.trans (hb8.mono hb7.size); have s8 := b8.size; clear hb7 hb8)
    | (refine wp_alloc_ar rfl 27 rfl .u8 (List.replicate 32 0) 32 Tryz.z23 ?_; intro gC w9 AC hgC hb9; have b9 := b8.trans (hb9.mono b8.size); have s9 := b9.size)
    | (refine wp_store_ar rfl 27 (.tmp 12) (.tmp 30) rfl gC rfl .u8 K rfl 27 _ AC (by rw [hKl]; rfl) (by rw [hKl]; exact hi23) ?_; intro wX AC' hkX hsX; clear hsX))
  have lA := AA'.lt
  have l6c := A6c.lt
  have l7c := A7c.lt
  have l8c := A8c.lt
  have A6X : Ar wX.drew g6 27 .u8 (List.replicate 32 0) := ((A6c.below b9 l6c).keep hkX (by omega) : Ar wX g6 27 .u8 (List.replicate 32 0))
  have A7X : Ar wX.drew g7 27 .u8 (List.replicate 32 0) := ((A7c.below b9 l7c).keep hkX (by omega) : Ar wX g7 27 .u8 (List.replicate 32 0))
  have A8X : Ar wX.drew g8 27 .u8 (List.replicate 32 0) := ((A8c.below b9 l8c).keep hkX (by omega) : Ar wX g8 27 .u8 (List.replicate 32 0))
  have AAX : Ar wX.drew gA 27 .u8 S := ((AA'.below b9 lA).keep hkX (by omega) : Ar wX gA 27 .u8 S)
  have ACX : Ar wX.drew gC 27 .u8 K := AC'
  have e5 := e3.trans (b5.mono e3.size)
  have e6 : Below w.heap.size w w6 := e5.trans (hk6.below e5.size (fun q hq => by omega))
  have e9 := e6.trans (b9.mono e6.size)
  have eX : Below w.heap.size w wX.drew := (e9.trans (hkX.below e9.size (fun q hq => by have := e6.size; omega))).drew
  have hg6' : w.heap.size ≤ g6 := hg6
  have hg7' : w.heap.size ≤ g7 := by omega
  have hg8' : w.heap.size ≤ g8 := by omega
  have n67 : ¬ g6 = g7 := by omega
  have n68 : ¬ g6 = g8 := by omega
  have n78 : ¬ g7 = g8 := by omega
  have nC6 : ¬ gC = g6 := by omega
  have nC7 : ¬ gC = g7 := by omega
  have nC8 : ¬ gC = g8 := by omega
  have HE : Hid (Below w.heap.size w wX.drew) := eX
  clear s1 s2 s3 s4 s5 s8 s9 z6 l6 l7 l8 lA l6c l7c l8c b4 b5 b8 b9 e2 e3 eB e5 e6 e9 eX hk6 hkX A6 A7 A8 AA AA' AC AC' A6' A6a A7a A6b A7b A8b A6c A7c A8c hb1 hb2 hb3 hb5 hb9 hR hg6 hg7 hg8 hgA hgC cH1
  refine wp_region_lx (fun w' => Ar w' gC 27 .u8 K) [] 11 (by kernel_rfl) (by kernel_rfl) ?_
  have HSC := ACX
  generalize wX.drew = W at HSC A6X A7X A8X AAX ACX HE ⊢
  refine lx_rd 0 (.slice (some ⟨gC, 0, none⟩) 32 32) (by kernel_rfl) (fun _ _ d _ _ h => by cases d <;> exact h) (by kernel_rfl) HSC rfl rfl rfl (fun w' hS => ?hR0) ?_
  case hR0 => first | (go_simp; rfl) | go_simp
  simp only [List.setIfInBounds_toArray, List.set_cons_zero, List.set_cons_succ]
  refine lx_rd 2 (.slice (some ⟨gA, 0, none⟩) 32 32) (by kernel_rfl) (fun _ _ d _ _ h => by cases d <;> exact h) (by kernel_rfl) HSC rfl rfl rfl (fun w' hS => ?hR2) ?_
  case hR2 => first | (go_simp; rfl) | go_simp
  simp only [List.setIfInBounds_toArray, List.set_cons_zero, List.set_cons_succ]
  refine lx_rd 6 (.agg (ic .u8 K).toArray) (by kernel_rfl) (fun _ _ d _ _ h => by cases d <;> exact h) (by kernel_rfl) HSC rfl rfl rfl (fun w' hS => ?hR6) ?_
  case hR6 => exact exec_load_ar 27 (.tmp 12) rfl gC rfl 27 .u8 K 5 32 hS Tryz.u23 hKl
  simp only [List.setIfInBounds_toArray, List.set_cons_zero, List.set_cons_succ]
  have hl1 : (sha K).length = 32 := shaB_len _ _ _
  have hW0 : Below W.heap.size W W := Below.refl _ _
  refine lx_two 1 3 (by kernel_rfl) ?_ ?_
  · refine stepT_call 30 #[.slice (some ⟨gC, 0, none⟩) 32 32] rfl rfl rfl (by first | (go_simp; rfl) | go_simp) ?_
    refine (refSha_any _ 32 32 K _ (by have := rd_row (ACX.below hW0 ACX.lt) hKb (by rw [hKl]; unfold maxLen; omega); rw [hKl] at this; exact this) (by omega)).mono ?_
    rintro e u1 ⟨rfl, q1⟩
    have b1 := hW0.trans (q1.mono hW0.size)
    refine ⟨_, rfl, fun _ => ACX.below b1 ACX.lt, ?_⟩
    simp only [List.setIfInBounds_toArray, List.set_cons_zero, List.set_cons_succ]
    refine lx_one 3 (by kernel_rfl) (stepT_val (w' := u1.alloc (.cells (bc skey).toArray 5)) (.slice (some ⟨u1.heap.size, 0, none⟩) skey.length skey.length) rfl rfl rfl (by first | (go_simp; done) | (go_simp; rfl) | (go_simp; exact ⟨rfl, rfl⟩)) (fun _ => ACX.below (b1.alloc b1.size _) ACX.lt) ?_)
    have b3 : Below W.heap.size W (u1.alloc (.cells (bc skey).toArray 5)) := b1.alloc b1.size _
    have hL3 : (u1.alloc (.cells (bc skey).toArray 5)).heap[u1.heap.size]? = some (.cells (bc skey).toArray 5 (0, 0)) := heap_alloc_new _ _
    have z3 : W.heap.size ≤ u1.heap.size := b1.size
    generalize u1.alloc (.cells (bc skey).toArray 5) = u3 at b3 hL3 ⊢
    simp only [List.setIfInBounds_toArray, List.set_cons_zero, List.set_cons_succ]
    obtain ⟨u4, m4, hm4, hL4, q4⟩ := mark_mid skey W u3 u1.heap.size _ z3 hL3
    have b4 := b3.trans q4
    refine lx_one 4 (by kernel_rfl) (stepT_val (w' := u4) (.slice (some ⟨u1.heap.size, 0, none⟩) skey.length skey.length) rfl rfl rfl (exec_conv rfl rfl hm4) (fun _ => ACX.below b4 ACX.lt) ?_)
    simp only [List.setIfInBounds_toArray, List.set_cons_zero, List.set_cons_succ]
    refine lx_one 5 (by kernel_rfl) (stepT_call 29 #[.slice (some ⟨gA, 0, none⟩) 32 32, .slice (some ⟨u1.heap.size, 0, none⟩) skey.length skey.length] rfl rfl rfl (by first | (go_simp; rfl) | go_simp) ?_)
    refine (cH2 _ (u1.heap.size) _ gA (by have := rd_row (AAX.below b4 AAX.lt) hSb (by rw [hSl]; unfold maxLen; omega); rw [hSl] at this; exact this) hL4).mono ?_
    rintro e wf ⟨rfl, q5⟩
    have hs := b4.trans (q5.mono b4.size)
    have B6 := A6X.below hs A6X.lt
    have B7 := A7X.below hs A7X.lt
    have B8 := A8X.below hs A8X.lt
    have BC := ACX.below hs ACX.lt
    refine ⟨_, rfl, fun _ => BC, ?_⟩
    simp only [List.setIfInBounds_toArray, List.set_cons_zero, List.set_cons_succ]
    refine lx_one 7 (by kernel_rfl) (stepT_store (w' := wf.setRow g6 (ic .u8 (sha K)).toArray) rfl rfl rfl (exec_store_ar 27 (.tmp 6) (.tmp 32) rfl g6 rfl .u8 (sha K) rfl 27 _ B6 (by rw [hl1]; rfl) (by rw [hl1]; exact hi23)) (fun _ => BC.keep ⟨rfl, rfl, rfl, by simp, fun j _ hj => setRow_other wf g6 j _ hj⟩ nC6) ?_)
    have hk1 : Keep (fun j => j = g6) wf (wf.setRow g6 (ic .u8 (sha K)).toArray) := ⟨rfl, rfl, rfl, by simp, fun j _ hj => setRow_other wf g6 j _ hj⟩
    have C6 : Ar (wf.setRow g6 (ic .u8 (sha K)).toArray) g6 27 .u8 (sha K) := B6.row
    have C7 := B7.keep hk1 (fun e => n67 e.symm)
    have C8 := B8.keep hk1 (fun e => n68 e.symm)
    have CC := BC.keep hk1 nC6
    generalize wf.setRow g6 (ic .u8 (sha K)).toArray = wg at hk1 C6 C7 C8 CC ⊢
    refine lx_one 8 (by kernel_rfl) (stepT_store (w' := wg.setRow g7 (ic .u8 V).toArray) rfl rfl rfl (exec_store_ar 27 (.tmp 7) (.tmp 36) rfl g7 rfl .u8 V rfl 27 _ C7 (by rw [hVl]; rfl) (by rw [hVl]; exact hi23)) (fun _ => CC.keep ⟨rfl, rfl, rfl, by simp, fun j _ hj => setRow_other wg g7 j _ hj⟩ nC7) ?_)
    have hk2 : Keep (fun j => j = g7) wg (wg.setRow g7 (ic .u8 V).toArray) := ⟨rfl, rfl, rfl, by simp, fun j _ hj => setRow_other wg g7 j _ hj⟩
    have D7 : Ar (wg.setRow g7 (ic .u8 V).toArray) g7 27 .u8 V := C7.row
    have D6 := C6.keep hk2 n67
    have D8 := C8.keep hk2 (fun e => n78 e.symm)
    have DC := CC.keep hk2 nC7
    generalize wg.setRow g7 (ic .u8 V).toArray = wh at hk2 D6 D7 D8 DC ⊢
    refine lx_one 9 (by kernel_rfl) (stepT_store (w' := wh.setRow g8 (ic .u8 K).toArray) rfl rfl rfl (exec_store_ar 27 (.tmp 8) (.tmp 37) rfl g8 rfl .u8 K rfl 27 _ D8 (by rw [hKl]; rfl) (by rw [hKl]; exact hi23)) (fun _ => DC.keep ⟨rfl, rfl, rfl, by simp, fun j _ hj => setRow_other wh g8 j _ hj⟩ nC8) ?_)
    have hk3 : Keep (fun j => j = g8) wh (wh.setRow g8 (ic .u8 K).toArray) := ⟨rfl, rfl, rfl, by simp, fun j _ hj => setRow_other wh g8 j _ hj⟩
    have E8 : Ar (wh.setRow g8 (ic .u8 K).toArray) g8 27 .u8 K := D8.row
    have E6 := D6.keep hk3 n68
    have E7 := D7.keep hk3 n78
    have EC := DC.keep hk3 nC8
    generalize wh.setRow g8 (ic .u8 K).toArray = wi at hk3 E6 E7 E8 EC ⊢
    refine lx_one 10 (by kernel_rfl) (stepT_val (w' := wi) (.int .i64 0) rfl rfl rfl (by first | (go_simp; done) | (go_simp; rfl)) (fun _ => EC) ?_)
    refine lx_nil (by kernel_rfl) ?_
    simp only [List.setIfInBounds_toArray, List.set_cons_zero, List.set_cons_succ]
    have f1 := HE.out.trans (hs.mono HE.out.size)
    have f2 := f1.trans (hk1.below f1.size (fun q hq => by omega))
    have f3 := f2.trans (hk2.below f2.size (fun q hq => by omega))
    have f4 := f3.trans (hk3.below f3.size (fun q hq => by omega))
    go_wp2
    exact bodyPost_ret (results_three Tryz.results10 _ _ g6 g7 g8 27 .u8 _ _ _ 5 32 (.int .i64 0) rfl rfl rfl rfl E6 E7 E8 Tryz.u23 hl1 hVl hKl) rfl ⟨rfl, f4⟩
  · refine stepT_val (w' := W.alloc (.cells (bc skey).toArray 5)) (.slice (some ⟨W.heap.size, 0, none⟩) skey.length skey.length) rfl rfl rfl (by first | (go_simp; done) | (go_simp; rfl) | (go_simp; exact ⟨rfl, rfl⟩)) (fun _ => ACX.below (hW0.alloc hW0.size _) ACX.lt) ?_
    have b3 : Below W.heap.size W (W.alloc (.cells (bc skey).toArray 5)) := hW0.alloc hW0.size _
    have hL3 : (W.alloc (.cells (bc skey).toArray 5)).heap[W.heap.size]? = some (.cells (bc skey).toArray 5 (0, 0)) := heap_alloc_new _ _
    have z3 : W.heap.size ≤ W.heap.size := hW0.size
    generalize W.alloc (.cells (bc skey).toArray 5) = u3 at b3 hL3 ⊢
    simp only [List.setIfInBounds_toArray, List.set_cons_zero, List.set_cons_succ]
    refine lx_two 1 4 (by kernel_rfl) ?_ ?_
    · refine stepT_call 30 #[.slice (some ⟨gC, 0, none⟩) 32 32] rfl rfl rfl (by first | (go_simp; rfl) | go_simp) ?_
      refine (refSha_any _ 32 32 K _ (by have := rd_row (ACX.below b3 ACX.lt) hKb (by rw [hKl]; unfold maxLen; omega); rw [hKl] at this; exact this) (by omega)).mono ?_
      rintro e u1 ⟨rfl, q1⟩
      have b1 := b3.trans (q1.mono b3.size)
      refine ⟨_, rfl, fun _ => ACX.below b1 ACX.lt, ?_⟩
      simp only [List.setIfInBounds_toArray, List.set_cons_zero, List.set_cons_succ]
      have L1 := (q1.block (W.heap.size) (Array.getElem?_eq_some_iff.1 hL3).1).trans hL3
      obtain ⟨u4, m4, hm4, hL4, q4⟩ := mark_mid skey W u1 W.heap.size _ z3 L1
      have b4 := b1.trans q4
      refine lx_one 4 (by kernel_rfl) (stepT_val (w' := u4) (.slice (some ⟨W.heap.size, 0, none⟩) skey.length skey.length) rfl rfl rfl (exec_conv rfl rfl hm4) (fun _ => ACX.below b4 ACX.lt) ?_)
      simp only [List.setIfInBounds_toArray, List.set_cons_zero, List.set_cons_succ]
      refine lx_one 5 (by kernel_rfl) (stepT_call 29 #[.slice (some ⟨gA, 0, none⟩) 32 32, .slice (some ⟨W.heap.size, 0, none⟩) skey.length skey.length] rfl rfl rfl (by first | (go_simp; rfl) | go_simp) ?_)
      refine (cH2 _ (W.heap.size) _ gA (by have := rd_row (AAX.below b4 AAX.lt) hSb (by rw [hSl]; unfold maxLen; omega); rw [hSl] at this; exact this) hL4).mono ?_
      rintro e wf ⟨rfl, q5⟩
      have hs := b4.trans (q5.mono b4.size)
      have B6 := A6X.below hs A6X.lt
      have B7 := A7X.below hs A7X.lt
      have B8 := A8X.below hs A8X.lt
      have BC := ACX.below hs ACX.lt
      refine ⟨_, rfl, fun _ => BC, ?_⟩
      simp only [List.setIfInBounds_toArray, List.set_cons_zero, List.set_cons_succ]
      refine lx_one 7 (by kernel_rfl) (stepT_store (w' := wf.setRow g6 (ic .u8 (sha K)).toArray) rfl rfl rfl (exec_store_ar 27 (.tmp 6) (.tmp 32) rfl g6 rfl .u8 (sha K) rfl 27 _ B6 (by rw [hl1]; rfl) (by rw [hl1]; exact hi23)) (fun _ => BC.keep ⟨rfl, rfl, rfl, by simp, fun j _ hj => setRow_other wf g6 j _ hj⟩ nC6) ?_)
      have hk1 : Keep (fun j => j = g6) wf (wf.setRow g6 (ic .u8 (sha K)).toArray) := ⟨rfl, rfl, rfl, by simp, fun j _ hj => setRow_other wf g6 j _ hj⟩
      have C6 : Ar (wf.setRow g6 (ic .u8 (sha K)).toArray) g6 27 .u8 (sha K) := B6.row
      have C7 := B7.keep hk1 (fun e => n67 e.symm)
      have C8 := B8.keep hk1 (fun e => n68 e.symm)
      have CC := BC.keep hk1 nC6
      generalize wf.setRow g6 (ic .u8 (sha K)).toArray = wg at hk1 C6 C7 C8 CC ⊢
      refine lx_one 8 (by kernel_rfl) (stepT_store (w' := wg.setRow g7 (ic .u8 V).toArray) rfl rfl rfl (exec_store_ar 27 (.tmp 7) (.tmp 36) rfl g7 rfl .u8 V rfl 27 _ C7 (by rw [hVl]; rfl) (by rw [hVl]; exact hi23)) (fun _ => CC.keep ⟨rfl, rfl, rfl, by simp, fun j _ hj => setRow_other wg g7 j _ hj⟩ nC7) ?_)
      have hk2 : Keep (fun j => j = g7) wg (wg.setRow g7 (ic .u8 V).toArray) := ⟨rfl, rfl, rfl, by simp, fun j _ hj => setRow_other wg g7 j _ hj⟩
      have D7 : Ar (wg.setRow g7 (ic .u8 V).toArray) g7 27 .u8 V := C7.row
      have D6 := C6.keep hk2 n67
      have D8 := C8.keep hk2 (fun e => n78 e.symm)
      have DC := CC.keep hk2 nC7
      generalize wg.setRow g7 (ic .u8 V).toArray = wh at hk2 D6 D7 D8 DC ⊢
      refine lx_one 9 (by kernel_rfl) (stepT_store (w' := wh.setRow g8 (ic .u8 K).toArray) rfl rfl rfl (exec_store_ar 27 (.tmp 8) (.tmp 37) rfl g8 rfl .u8 K rfl 27 _ D8 (by rw [hKl]; rfl) (by rw [hKl]; exact hi23)) (fun _ => DC.keep ⟨rfl, rfl, rfl, by simp, fun j _ hj => setRow_other wh g8 j _ hj⟩ nC8) ?_)
      have hk3 : Keep (fun j => j = g8) wh (wh.setRow g8 (ic .u8 K).toArray) := ⟨rfl, rfl, rfl, by simp, fun j _ hj => setRow_other wh g8 j _ hj⟩
      have E8 : Ar (wh.setRow g8 (ic .u8 K).toArray) g8 27 .u8 K := D8.row
      have E6 := D6.keep hk3 n68
      have E7 := D7.keep hk3 n78
      have EC := DC.keep hk3 nC8
      generalize wh.setRow g8 (ic .u8 K).toArray = wi at hk3 E6 E7 E8 EC ⊢
      refine lx_one 10 (by kernel_rfl) (stepT_val (w' := wi) (.int .i64 0) rfl rfl rfl (by first | (go_simp; done) | (go_simp; rfl)) (fun _ => EC) ?_)
      refine lx_nil (by kernel_rfl) ?_
      simp only [List.setIfInBounds_toArray, List.set_cons_zero, List.set_cons_succ]
      have f1 := HE.out.trans (hs.mono HE.out.size)
      have f2 := f1.trans (hk1.below f1.size (fun q hq => by omega))
      have f3 := f2.trans (hk2.below f2.size (fun q hq => by omega))
      have f4 := f3.trans (hk3.below f3.size (fun q hq => by omega))
      go_wp2
      exact bodyPost_ret (results_three Tryz.results10 _ _ g6 g7 g8 27 .u8 _ _ _ 5 32 (.int .i64 0) rfl rfl rfl rfl E6 E7 E8 Tryz.u23 hl1 hVl hKl) rfl ⟨rfl, f4⟩
    · obtain ⟨u4, m4, hm4, hL4, q4⟩ := mark_mid skey W u3 W.heap.size _ z3 hL3
      have b4 := b3.trans q4
      refine stepT_val (w' := u4) (.slice (some ⟨W.heap.size, 0, none⟩) skey.length skey.length) rfl rfl rfl (exec_conv rfl rfl hm4) (fun _ => ACX.below b4 ACX.lt) ?_
      simp only [List.setIfInBounds_toArray, List.set_cons_zero, List.set_cons_succ]
      refine lx_one 1 (by kernel_rfl) (stepT_call 30 #[.slice (some ⟨gC, 0, none⟩) 32 32] rfl rfl rfl (by first | (go_simp; rfl) | go_simp) ?_)
      refine (refSha_any _ 32 32 K _ (by have := rd_row (ACX.below b4 ACX.lt) hKb (by rw [hKl]; unfold maxLen; omega); rw [hKl] at this; exact this) (by omega)).mono ?_
      rintro e u1 ⟨rfl, q1⟩
      have b1 := b4.trans (q1.mono b4.size)
      refine ⟨_, rfl, fun _ => ACX.below b1 ACX.lt, ?_⟩
      simp only [List.setIfInBounds_toArray, List.set_cons_zero, List.set_cons_succ]
      have L1 := (q1.block (W.heap.size) (Array.getElem?_eq_some_iff.1 hL4).1).trans hL4
      refine lx_one 5 (by kernel_rfl) (stepT_call 29 #[.slice (some ⟨gA, 0, none⟩) 32 32, .slice (some ⟨W.heap.size, 0, none⟩) skey.length skey.length] rfl rfl rfl (by first | (go_simp; rfl) | go_simp) ?_)
      refine (cH2 _ (W.heap.size) _ gA (by have := rd_row (AAX.below b1 AAX.lt) hSb (by rw [hSl]; unfold maxLen; omega); rw [hSl] at this; exact this) L1).mono ?_
      rintro e wf ⟨rfl, q5⟩
      have hs := b1.trans (q5.mono b1.size)
      have B6 := A6X.below hs A6X.lt
      have B7 := A7X.below hs A7X.lt
      have B8 := A8X.below hs A8X.lt
      have BC := ACX.below hs ACX.lt
      refine ⟨_, rfl, fun _ => BC, ?_⟩
      simp only [List.setIfInBounds_toArray, List.set_cons_zero, List.set_cons_succ]
      refine lx_one 7 (by kernel_rfl) (stepT_store (w' := wf.setRow g6 (ic .u8 (sha K)).toArray) rfl rfl rfl (exec_store_ar 27 (.tmp 6) (.tmp 32) rfl g6 rfl .u8 (sha K) rfl 27 _ B6 (by rw [hl1]; rfl) (by rw [hl1]; exact hi23)) (fun _ => BC.keep ⟨rfl, rfl, rfl, by simp, fun j _ hj => setRow_other wf g6 j _ hj⟩ nC6) ?_)
      have hk1 : Keep (fun j => j = g6) wf (wf.setRow g6 (ic .u8 (sha K)).toArray) := ⟨rfl, rfl, rfl, by simp, fun j _ hj => setRow_other wf g6 j _ hj⟩
      have C6 : Ar (wf.setRow g6 (ic .u8 (sha K)).toArray) g6 27 .u8 (sha K) := B6.row
      have C7 := B7.keep hk1 (fun e => n67 e.symm)
      have C8 := B8.keep hk1 (fun e => n68 e.symm)
      have CC := BC.keep hk1 nC6
      generalize wf.setRow g6 (ic .u8 (sha K)).toArray = wg at hk1 C6 C7 C8 CC ⊢
      refine lx_one 8 (by kernel_rfl) (stepT_store (w' := wg.setRow g7 (ic .u8 V).toArray) rfl rfl rfl (exec_store_ar 27 (.tmp 7) (.tmp 36) rfl g7 rfl .u8 V rfl 27 _ C7 (by rw [hVl]; rfl) (by rw [hVl]; exact hi23)) (fun _ => CC.keep ⟨rfl, rfl, rfl, by simp, fun j _ hj => setRow_other wg g7 j _ hj⟩ nC7) ?_)
      have hk2 : Keep (fun j => j = g7) wg (wg.setRow g7 (ic .u8 V).toArray) := ⟨rfl, rfl, rfl, by simp, fun j _ hj => setRow_other wg g7 j _ hj⟩
      have D7 : Ar (wg.setRow g7 (ic .u8 V).toArray) g7 27 .u8 V := C7.row
      have D6 := C6.keep hk2 n67
      have D8 := C8.keep hk2 (fun e => n78 e.symm)
      have DC := CC.keep hk2 nC7
      generalize wg.setRow g7 (ic .u8 V).toArray = wh at hk2 D6 D7 D8 DC ⊢
      refine lx_one 9 (by kernel_rfl) (stepT_store (w' := wh.setRow g8 (ic .u8 K).toArray) rfl rfl rfl (exec_store_ar 27 (.tmp 8) (.tmp 37) rfl g8 rfl .u8 K rfl 27 _ D8 (by rw [hKl]; rfl) (by rw [hKl]; exact hi23)) (fun _ => DC.keep ⟨rfl, rfl, rfl, by simp, fun j _ hj => setRow_other wh g8 j _ hj⟩ nC8) ?_)
      have hk3 : Keep (fun j => j = g8) wh (wh.setRow g8 (ic .u8 K).toArray) := ⟨rfl, rfl, rfl, by simp, fun j _ hj => setRow_other wh g8 j _ hj⟩
      have E8 : Ar (wh.setRow g8 (ic .u8 K).toArray) g8 27 .u8 K := D8.row
      have E6 := D6.keep hk3 n68
      have E7 := D7.keep hk3 n78
      have EC := DC.keep hk3 nC8
      generalize wh.setRow g8 (ic .u8 K).toArray = wi at hk3 E6 E7 E8 EC ⊢
      refine lx_one 10 (by kernel_rfl) (stepT_val (w' := wi) (.int .i64 0) rfl rfl rfl (by first | (go_simp; done) | (go_simp; rfl)) (fun _ => EC) ?_)
      refine lx_nil (by kernel_rfl) ?_
      simp only [List.setIfInBounds_toArray, List.set_cons_zero, List.set_cons_succ]
      have f1 := HE.out.trans (hs.mono HE.out.size)
      have f2 := f1.trans (hk1.below f1.size (fun q hq => by omega))
      have f3 := f2.trans (hk2.below f2.size (fun q hq => by omega))
      have f4 := f3.trans (hk3.below f3.size (fun q hq => by omega))
      go_wp2
      exact bodyPost_ret (results_three Tryz.results10 _ _ g6 g7 g8 27 .u8 _ _ _ 5 32 (.int .i64 0) rfl rfl rfl rfl E6 E7 E8 Tryz.u23 hl1 hVl hKl) rfl ⟨rfl, f4⟩
end Go.Proofs.YtmilcknboaefkaaGreatDoor

/- Keys, both ways. -/
namespace Go.Proofs.YtmilcknboaefkaaGreatDoor
open Go.RowKit

set_option maxRecDepth 100000 in
set_option maxHeartbeats 1600000 in
theorem refKeys_bad (P : Tx) (a : Option Addr) (n c : Nat) (N : Int) (w : World) (hP : P.length ≤ 10000) (hN : N < 1 ∨ 4096 < N) :
    Calls Tryz.prog 10 #[.string ⟨P.toArray⟩, .slice a n c, .int .i64 N] w fun e w' => e = .returned (.tuple #[.agg (ic .u8 (List.replicate 32 0)).toArray, .agg (ic .u8 (List.replicate 32 0)).toArray, .agg (ic .u8 (List.replicate 32 0)).toArray, .int .i64 3]) ∧ Below w.heap.size w w' := by
  have hi23 := (size_of Tryz.u23).2
  have hz23 : Tryz.prog.built 27 [] = some (ic .u8 (List.replicate 32 0)).toArray := by kernel_rfl
  obtain ⟨Z, HZ⟩ : ∃ Z : List Int, Hid (List.replicate 32 0 = Z) := ⟨_, rfl⟩
  have hZl : Z.length = 32 := by rw [← HZ.out]; rfl
  have hz23' := Tryz.z23
  have cH := fun (a : Option Addr) (n c : Nat) (a' : Option Addr) (n' c' : Nat) (w : World) => refHi_bad a n c a' n' c' N w hN
  rw [HZ.out] at hz23 hz23' cH ⊢
  have tk1 : True := trivial
  have tk2 : True := trivial
  have tk3 : True := trivial
  have tk5 : True := trivial
  have tk6 : True := trivial
  have tk7 : True := trivial
  go_enter Tryz.func10, Tryz.ntmps10
  go_wp2_with (first
    | (clear tk1; refine wp_alloc_ar rfl 27 rfl .u8 Z 32 hz23' ?_; intro g6 w1 A6 hg6 hb1)
    | (clear tk2; refine wp_alloc_ar rfl 27 rfl .u8 Z 32 hz23' ?_; intro g7 w2 A7 hg7 hb2; have e2 := hb1.trans (hb2.mono hb1.size); have l6 := A6.lt; have l7 := A7.lt; have A6' := A6.below hb2 l6)
    | (clear tk3; refine wp_alloc_ar rfl 27 rfl .u8 Z 32 hz23' ?_; intro g8 w3 A8 hg8 hb3; obtain ⟨cB, wB, hcv, hRB, hbB⟩ := bytes_tx P w3 (by omega); have s1 := hb1.size; have s2 := hb2.size; have s3 := hb3.size; have l8 := A8.lt; have e3 := e2.trans (hb3.mono e2.size); have A6a := A6'.below hb3 (by omega); have A7a := A7.below hb3 l7)
    | (refine wp_build_ar rfl 27 rfl .u8 Z hz23 ?_)
    | (go_at_call 28; refine (cH _ _ _ _ _ _ _).mono ?_; rintro e w4 ⟨rfl, hb4⟩; clear hcv; have b4 := hbB.trans (hb4.mono hbB.size); clear hb4 hbB hRB)
    | (refine wp_alloc_ar rfl 27 rfl .u8 Z 32 hz23' ?_; intro gA w5 AA hgA hb5; have b5 := b4.trans (hb5.mono b4.size); have s4 := b4.size; have s5 := hb5.size; have A6b := A6a.below b5 (by omega); have A7b := A7a.below b5 (by omega); have A8b := A8.below b5 l8)
    | (clear tk5; refine wp_store_ar rfl 27 (.tmp 10) (.tmp 19) rfl gA rfl .u8 Z rfl 27 _ AA rfl (by rw [hZl]; exact hi23) ?_; intro w6 AA' hk6 hs6; clear hs6; have A6c := A6b.keep hk6 (by omega); have A7c := A7b.keep hk6 (by omega); have A8c := A8b.keep hk6 (by omega))
    | (clear tk6; refine wp_store_ar rfl 27 (.tmp 6) (.tmp 23) rfl g6 rfl .u8 Z rfl 27 _ A6c rfl (by rw [hZl]; exact hi23) ?_; intro w7 A6d hk7 hs7; clear hs7; have A7d := A7c.keep hk7 (by omega); have A8d := A8c.keep hk7 (by omega))
    | (clear tk7; refine wp_store_ar rfl 27 (.tmp 7) (.tmp 24) rfl g7 rfl .u8 Z rfl 27 _ A7d rfl (by rw [hZl]; exact hi23) ?_; intro w8 A7e hk8 hs8; clear hs8; have A6e := A6d.keep hk8 (by omega); have A8e := A8d.keep hk8 (by omega))
    | (refine wp_store_ar rfl 27 (.tmp 8) (.tmp 25) rfl g8 rfl .u8 Z rfl 27 _ A8e rfl (by rw [hZl]; exact hi23) ?_; intro w9 A8f hk9 hs9; clear hs9; have A6f := A6e.keep hk9 (by omega); have A7f := A7e.keep hk9 (by omega)))
  have e5 := e3.trans (b5.mono e3.size)
  have e6 : Below w.heap.size w w6 := e5.trans (hk6.below e5.size (fun q hq => by omega))
  have e7 : Below w.heap.size w w7 := e6.trans (hk7.below e6.size (fun q hq => by omega))
  have e8 : Below w.heap.size w w8 := e7.trans (hk8.below e7.size (fun q hq => by omega))
  have e9 : Below w.heap.size w w9 := e8.trans (hk9.below e8.size (fun q hq => by omega))
  exact bodyPost_ret (results_three Tryz.results10 _ _ g6 g7 g8 27 .u8 _ _ _ 5 32 (.int .i64 3) rfl rfl rfl rfl A6f A7f A8f Tryz.u23 hZl hZl hZl) rfl ⟨rfl, e9⟩

theorem keys_both (P : Tx) (ss : List Int) (M : Int) (hP : P.length ≤ 10000) : ∃ (A B C : List Int) (E : Int), A.length = 32 ∧ B.length = 32 ∧ C.length = 32 ∧
    (∀ (a : Option Addr) (n c : Nat) (w : World), Rd w a n c ss → n ≤ 10000 → Kt w → Calls Tryz.prog 8 #[.string ⟨P.toArray⟩, .slice a n c, .int .i64 M] w fun e w' => e = .returned (.tuple #[.agg (ic .u8 A).toArray, .agg (ic .u8 B).toArray, .int .i64 E]) ∧ Below w.heap.size w w') ∧
    (∀ (a : Option Addr) (n c : Nat) (w : World), Rd w a n c ss → n ≤ 10000 → Calls Tryz.prog 10 #[.string ⟨P.toArray⟩, .slice a n c, .int .i64 M] w fun e w' => e = .returned (.tuple #[.agg (ic .u8 A).toArray, .agg (ic .u8 B).toArray, .agg (ic .u8 C).toArray, .int .i64 E]) ∧ Below w.heap.size w w') := by
  by_cases h : M < 1 ∨ 4096 < M
  · exact ⟨List.replicate 32 0, List.replicate 32 0, List.replicate 32 0, 3, by simp, by simp, by simp, fun a n c w _ _ _ => keys_bad P a n c M w hP h, fun a n c w _ _ => refKeys_bad P a n c M w hP h⟩
  · have hM : M = ((M.toNat : Nat) : Int) := by omega
    refine ⟨sha (hmac (sumK (il P) ss (M.toNat - 1)) ckey), hmac (sumK (il P) ss (M.toNat - 1)) skey, hmac (sumK (il P) ss (M.toNat - 1)) ckey, 0, shaB_len _ _ _, hmac_len _ _, hmac_len _ _, fun a n c w h1 h2 h3 => ?_, fun a n c w h1 h2 => ?_⟩
    · rw [hM]; exact keys_ok P a n c ss M.toNat w hP h1 h2 (by omega) (by omega) h3
    · rw [hM]; exact refKeys_ok P a n c ss M.toNat w hP h1 h2 (by omega) (by omega)
def rnd (n : Int) : Int := if 12 < n ∧ n ≤ 4096 then n % 12 + 1 else n
theorem rounds_any (n : Int) (w : World) : Calls Tryz.prog 6 #[.int .i64 n] w fun e w' => e = .returned (.int .i64 (rnd n)) ∧ Below w.heap.size w w' := by
  by_cases h1 : 12 < n
  · by_cases h2 : n ≤ 4096
    · have hr : Hid (rnd n = n % 12 + 1) := by show rnd n = _; unfold rnd; rw [if_pos ⟨h1, h2⟩]
      go_enter Tryz.func6, Tryz.ntmps6
      go_wp2
      go_ret
      rw [hr.out]
      exact ⟨rfl, Below.refl _ _⟩
    · have hr : Hid (rnd n = n) := by show rnd n = n; unfold rnd; rw [if_neg (fun h => h2 h.2)]
      go_enter Tryz.func6, Tryz.ntmps6
      go_wp2
      go_ret
      rw [hr.out]
      exact ⟨rfl, Below.refl _ _⟩
  · have hr : Hid (rnd n = n) := by show rnd n = n; unfold rnd; rw [if_neg (fun h => h1 h.1)]
    go_enter Tryz.func6, Tryz.ntmps6
    go_wp2
    go_ret
    rw [hr.out]
    exact ⟨rfl, Below.refl _ _⟩
end Go.Proofs.YtmilcknboaefkaaGreatDoor
