/- Base64Back's walk. -/
import Derived.Test.YtmmjeikmifhekaaB6W
import Derived.WalkKit
import Derived.Deep.QuietTactic
import Derived.BigQuiet
import Derived.Laws.IdiomStrings
namespace Go.Proofs.Ytmmjeikmifhekaa
open Go.RowKit

theorem wi64' {n m : Int} (h0 : -9223372036854775808 ≤ n) (h1 : n ≤ 9223372036854775807) (h : n = m) : IntKind.i64.wrap n = m := by
  subst h; simp [IntKind.wrap, IntKind.bits, IntKind.signed]; omega
theorem exec_conv {w : World} {o : Oper} {ρ : Operand → Value} {x : Operand} {v v' : Value} (ho : o.op = .convert 22 9 x) (hx : ρ x = v)
    (hrun : (convert 22 9 v).run Try.prog w = .ok v' w) : (execOp ρ o).run Try.prog w = .ok (.value v') w := by
  unfold execOp
  simp only [ho, hx, Sem.run_bind, Sem.run_pure, Result.andThen_ok, hrun]

/-- '[]byte(s)' reads as the string's bytes, in new memory that may be written. -/
theorem bytes_run (s : ByteArray) (w : World) (hs : s.size ≤ 1000000) : ∃ c w', (convert 9 22 (.string s)).run Try.prog w = .ok (.slice (some ⟨w.heap.size, 0, none⟩) s.size c) w' ∧ Rd w' (some ⟨w.heap.size, 0, none⟩) s.size c (nums s) ∧ (∀ j, j < s.size → w'.frozen? ⟨w.heap.size, j, none⟩ = false) ∧ Below w.heap.size w w' := by
  refine ⟨_, _, run_bytes_of_string w 9 22 5 s Try.underlying9 Try.underlying22 Try.underlying5, ?_, ?_, ?_⟩
  · refine ⟨nums_len s, grownCap_ge _ _ _ _, grownCap_le_maxLen _ _ _ _ (by unfold maxLen; omega), (fun h => by cases h), nums_bd s, fun ad had j hj => ?_⟩
    cases had
    have hj' : j < s.data.size := hj
    rw [add_flat, Nat.zero_add, show w.heap.size = w.drew.heap.size from rfl, World.cell?_alloc_mark, bytesRow_at s _ j hj']
    simp [nums, List.getD, Array.getElem?_eq_getElem hj']
  · intro j hj
    have := World.frozen?_alloc_mark w.drew (bytesRow s (grownCap w s.size 0 5)) 5 (bytesRow s (grownCap w s.size 0 5)).size ((bytesRow s (grownCap w s.size 0 5)).size + 1) j
    rw [show w.drew.heap.size = w.heap.size from rfl] at this
    rw [this]
    have hz : s.size ≤ (bytesRow s (grownCap w s.size 0 5)).size := by simp [bytesRow, Array.size_append]
    simp
    omega
  · exact ((Below.refl _ _).drew).alloc (Nat.le_refl _) _
theorem Bd.set {xs : List Int} (h : Bd xs) (k : Nat) {v : Int} (h0 : 0 ≤ v) (h1 : v ≤ 255) : Bd (xs.set k v) := by
  intro x hx
  rcases List.mem_or_eq_of_mem_set hx with q | q
  · exact h x q
  · subst q; exact ⟨h0, h1⟩
theorem Rd.setAt {w : World} {g n c : Nat} {xs : List Int} (h : Rd w (some ⟨g, 0, none⟩) n c xs) {k : Nat} (hk : k < n) {v : Int} (h0 : 0 ≤ v) (h1 : v ≤ 255) : Rd (w.setCell ⟨g, k, none⟩ (.int .u8 v)) (some ⟨g, 0, none⟩) n c (xs.set k v) := by
  refine ⟨by rw [List.length_set]; exact h.len, h.cap, h.most, h.nil, h.bytes.set k h0 h1, fun ad had j hj => ?_⟩
  cases had
  have hl := h.len
  have hc := h.cells _ rfl j hj
  rw [add_flat, Nat.zero_add] at hc ⊢
  by_cases e : k = j
  · subst e
    rw [World.cell?_setCell_same _ _ _ hc]
    simp [List.getD, show k < xs.length by omega]
  · rw [World.cell?_setCell_other _ _ _ _ (fun e' => e (by injection e')), hc]
    simp [List.getD, e]
theorem tmL (z : Int) (L : Nat) (hL : 0 < L) (hL1 : L ≤ 1000000) : ∃ k : Nat, (wrap64 (z.tmod (L : Int) + (L : Int))).tmod (L : Int) = (k : Int) ∧ k < L := by
  have h1 : z.tmod L < L := Int.tmod_lt_of_pos z (by omega)
  have h2 : -(L : Int) < z.tmod L := by
    have : (-z).tmod L < L := Int.tmod_lt_of_pos (-z) (by omega)
    rw [Int.neg_tmod] at this; omega
  have h3 : wrap64 (z.tmod L + L) = z.tmod L + L := by unfold wrap64; omega
  rw [h3, Int.tmod_eq_emod_of_nonneg (by omega)]
  have h5 := Int.emod_lt_of_pos (z.tmod L + L) (show (0 : Int) < L by omega)
  have h4 := Int.emod_nonneg (z.tmod L + L) (show (L : Int) ≠ 0 by omega)
  exact ⟨((z.tmod L + L) % L).toNat, by omega, by omega⟩
theorem below_drewN {B : Nat} {w w' : World} (h : Below B w w') (n : Nat) : Below B w (w'.drewN n) := ⟨h.os, h.tape, h.output, h.size, h.block⟩
theorem str_ne {xs ys : List Int} (hx : Bd xs) (hy : Bd ys) (h : xs ≠ ys) : ((strOfNums xs).toList == (strOfNums ys).toList) = false := by
  rw [beq_eq_false_iff_ne]
  intro e
  rw [Lib.toList_data, Lib.toList_data] at e
  refine h (str_inj hx hy ?_)
  exact congrArg ByteArray.mk (Array.toList_inj.1 e)

namespace base64Back
set_option maxRecDepth 100000 in
set_option maxHeartbeats 8000000 in
theorem walkN (a : Option Addr) (n c : Nat) (xs : List Int) (S : ByteArray) (I J : Int) (w : World) (hR : Rd w a n c xs) (hS : S.size ≤ 9223372036854775807) (hJ0 : 0 ≤ J) (hJ1 : J ≤ 255) (hdX : dec ((nums S).take 1000) = none) :
    Calls Try.prog 4 #[.agg #[.slice a n c, .string S, .int .i64 I, .int .u8 J]] w fun e w' => e = .returned (.bool true) ∧ Below w.heap.size w w' := by
  obtain ⟨P, HP⟩ : ∃ P, Hid (xs.take 1000 = P) := ⟨_, rfl⟩
  obtain ⟨m, HPl⟩ : ∃ m, Hid (P.length = m) := ⟨_, rfl⟩
  have hm : m ≤ 1000 := by rw [← HPl.out, ← HP.out, List.length_take]; omega
  have bP : Hid (Bd P) := by show Bd P; rw [← HP.out]; exact hR.bytes.take _
  obtain ⟨L, hL⟩ : ∃ L : Nat, L = (m + 2) / 3 * 4 := ⟨_, rfl⟩
  have hLE : (enc P).length = L := by rw [enc_len, HPl.out, hL]
  have cE := fun u p q s (h : Rd u p q s P) (hq : q ≤ 1000) => encode_any p q s P u h (by omega)
  have cD := fun u => decodeR (enc P) P 0 u (enc_bd bP.out) (by rw [hLE]; omega) (by rw [dec_enc bP.out]; rfl) (by rw [dec_enc bP.out]; rfl)
  obtain ⟨sE, HsE⟩ : ∃ s, Hid (strOfNums (enc P) = s) := ⟨_, rfl⟩
  obtain ⟨tP, HtP⟩ : ∃ s, Hid (strOfNums P = s) := ⟨_, rfl⟩
  simp only [HsE.out] at cE cD
  have hzE : sE.size = L := by rw [← HsE.out, str_size, hLE]
  have HLE : Hid ((enc P).length = L) := hLE
  have HL : Hid (L = (m + 2) / 3 * 4) := hL
  have hL3 : ((m : Int) + 2) / 3 * 4 = (L : Int) := by omega
  have hL1 : L ≤ 1400 := by omega
  obtain ⟨X, HX⟩ : ∃ X, Hid ((nums S).take 1000 = X) := ⟨_, rfl⟩
  have bX : Bd X := by rw [← HX.out]; exact (nums_bd S).take _
  have lX : X.length ≤ 1000 := by rw [← HX.out, List.length_take]; omega
  rw [HX.out] at hdX
  have cX := fun u => decodeR X [] 2 u bX (by omega) (by rw [hdX]; rfl) (by rw [hdX]; rfl)
  obtain ⟨sX, HsX0⟩ : ∃ s, Hid (strOfNums X = s) := ⟨_, rfl⟩
  have HsX : Hid (strOfNums ((nums S).take 1000) = sX) := by show _ = _; rw [HX.out]; exact HsX0.out
  simp only [HsX0.out] at cX
  have HX2 : Hid (([] : List Int).length = 0) := rfl
  clear hLE hL lX bX hdX
  go_enter Try.func4, Try.ntmps4
  go_wp2
  go_quiet (fail)
  go_wp2_with fail
  obtain ⟨w1, hw1⟩ : ∃ w1, (w.alloc (.cells #[.slice a n c, .string S, .int .i64 I, .int .u8 J] 34)).drewN nq = w1 := ⟨_, rfl⟩
  have b1 : Below w.heap.size w w1 := by rw [← hw1]; exact below_drewN ((Below.refl _ _).alloc (Nat.le_refl _) _) _
  rw [hw1]
  clear hw1
  refine (fewR a n c xs _ (hR.carry (Nat.le_refl _) b1)).mono ?_
  rw [HP.out]
  rintro e w2 ⟨a2, n2, c2, rfl, hn2, hr2, hb2⟩
  go_wp2_with fail
  refine (cE _ _ _ _ hr2 hn2).mono ?_
  rintro e w3 ⟨rfl, hb3⟩
  have b2 := b1.trans (hb2.mono b1.size)
  have b3 := b2.trans (hb3.mono b2.size)
  clear hr2 hb2 hb3 b1 b2
  go_wp2_with fail
  refine (cD _).mono ?_
  rintro e w4 ⟨a8, n8, c8, rfl, hr8', hN8, hb4⟩
  have b4 := b3.trans (hb4.mono b3.size)
  have hR3 := rd_drewN (hR.carry (Nat.le_refl _) b4) 1
  have hr8 := rd_drewN hr8' 1
  clear hN8 hb4 b3 cE cD hr8'
  have HB4 : Hid (Below w.heap.size w w4) := b4
  have H2 : (0 : Int) ≤ (m : Int) := by omega
  clear b4
  go_wp2_with fail
  refine wp_region_facts [0, 1, 2, 3, 4, 5, 6, 7, 8, 9, 10, 11, 12, 13, 14, 15, 16, 17, 18, 19, 20] (Gl [(fEq (.int .i64 0)), (fEq (.bool false)), (fEq (.bool false)), (fEq (.slice a8 n8 c8)), (fEq (.string tP)), (fEq (.slice a n c)), (fRd P 1000), (fEq (.string tP)), (fEq (.bool false)), (fEq (.bool false)), (fEq (.bool false)), (fEq (.string sE)), (fEq (.int .i64 (L : Int))), (fEq (.slice a n c)), (fRd P 1000), (fEq (.int .i64 (m : Int))), (fEq (.int .i64 ((m : Int) + 2))), (fEq (.int .i64 (((m : Int) + 2) / 3))), (fEq (.int .i64 (L : Int))), (fEq (.bool false)), (fEq (.bool false))]) 21 0 (by kernel_rfl) (by kernel_rfl) rfl (by kernel_rfl) (lasts_list ?olst) ?oob ?_
  case olst =>
    intro g hg
    simp only [List.mem_cons, List.not_mem_nil, or_false] at hg
    rcases hg with rfl | rfl | rfl | rfl | rfl | rfl | rfl | rfl | rfl | rfl | rfl | rfl | rfl | rfl | rfl | rfl | rfl | rfl | rfl | rfl | rfl
    · exact lasts_eq _
    · exact lasts_eq _
    · exact lasts_eq _
    · exact lasts_eq _
    · exact lasts_eq _
    · exact lasts_eq _
    · exact lasts_rd _ _
    · exact lasts_eq _
    · exact lasts_eq _
    · exact lasts_eq _
    · exact lasts_eq _
    · exact lasts_eq _
    · exact lasts_eq _
    · exact lasts_eq _
    · exact lasts_rd _ _
    · exact lasts_eq _
    · exact lasts_eq _
    · exact lasts_eq _
    · exact lasts_eq _
    · exact lasts_eq _
    · exact lasts_eq _
  case oob =>
    refine (allIn_cons ?o0 (allIn_cons ?o1 (allIn_cons ?o2 (allIn_cons ?o3 (allIn_cons ?o4 (allIn_cons ?o5 (allIn_cons ?o6 (allIn_cons ?o7 (allIn_cons ?o8 (allIn_cons ?o9 (allIn_cons ?o10 (allIn_cons ?o11 (allIn_cons ?o12 (allIn_cons ?o13 (allIn_cons ?o14 (allIn_cons ?o15 (allIn_cons ?o16 (allIn_cons ?o17 (allIn_cons ?o18 (allIn_cons ?o19 (allIn_cons ?o20 allIn_nil)))))))))))))))))))))
    case o0 =>
      refine ob_val 0 rfl rfl (by simp) (fun tm u h => ⟨?ow0, ?_⟩)
      case ow0 => exact wanted_none rfl
      have s9 : tm.getD 9 undef = .int .i64 0 := h.same 9 (of_decide_eq_true (by kernel_rfl))
      exact ⟨.int .i64 0, u, by first | (go_simp; done) | (go_simp; rfl), rfl, Below.refl _ _⟩
    case o1 =>
      refine ob_val 1 rfl rfl (by simp) (fun tm u h => ⟨?ow1, ?_⟩)
      case ow1 => exact wanted_none rfl
      have f0 : tm.getD 33 undef = .int .i64 0 := h.dep 0 _ _ (by simp) rfl rfl ⟨_, rfl, by kernel_rfl⟩
      refine ⟨.bool false, u, ?_, rfl, Below.refl _ _⟩
      first | (go_simp; done) | (go_simp; rfl)
    case o2 =>
      refine ob_val 2 rfl rfl (by simp) (fun tm u h => ⟨?ow2, ?_⟩)
      case ow2 => exact wanted_none rfl
      have f1 : tm.getD 34 undef = .bool false := h.dep 1 _ _ (by simp) rfl rfl ⟨_, rfl, by kernel_rfl⟩
      exact ⟨.bool false, u, by first | (go_simp; done) | (go_simp; rfl), rfl, Below.refl _ _⟩
    case o3 =>
      refine ob_val 3 rfl rfl (by simp) (fun tm u h => ⟨?ow3, ?_⟩)
      case ow3 => exact wanted_of rfl rfl rfl (by rw [h.sz]; simp) (h.dep 2 _ _ (by simp) rfl rfl ⟨_, rfl, by kernel_rfl⟩)
      have s8 : tm.getD 8 undef = .slice a8 n8 c8 := h.same 8 (of_decide_eq_true (by kernel_rfl))
      exact ⟨.slice a8 n8 c8, u, by first | (go_simp; done) | (go_simp; rfl), rfl, Below.refl _ _⟩
    case o4 =>
      refine ob_val 4 rfl rfl (by simp) (fun tm u h => ⟨?ow4, ?_⟩)
      case ow4 => exact wanted_of rfl rfl rfl (by rw [h.sz]; simp) (h.dep 2 _ _ (by simp) rfl rfl ⟨_, rfl, by kernel_rfl⟩)
      have f3 : tm.getD 36 undef = .slice a8 n8 c8 := h.dep 3 _ _ (by simp) rfl rfl ⟨_, rfl, by kernel_rfl⟩
      have hcv := (hr8.carry (Nat.le_refl _) h.s).string
      rw [HtP.out] at hcv
      exact ⟨_, u, exec_conv rfl f3 hcv, rfl, Below.refl _ _⟩
    case o5 =>
      refine ob_val 5 rfl rfl (by simp) (fun tm u h => ⟨?ow5, ?_⟩)
      case ow5 => exact wanted_of rfl rfl rfl (by rw [h.sz]; simp) (h.dep 2 _ _ (by simp) rfl rfl ⟨_, rfl, by kernel_rfl⟩)
      have s3 : tm.getD 3 undef = .slice a n c := h.same 3 (of_decide_eq_true (by kernel_rfl))
      exact ⟨.slice a n c, u, by first | (go_simp; done) | (go_simp; rfl), rfl, Below.refl _ _⟩
    case o6 =>
      refine ob_call 6 rfl rfl (by simp) (fun tm u h => ⟨?ow6, ?_⟩)
      case ow6 => exact wanted_of rfl rfl rfl (by rw [h.sz]; simp) (h.dep 2 _ _ (by simp) rfl rfl ⟨_, rfl, by kernel_rfl⟩)
      have f5 : tm.getD 38 undef = .slice a n c := h.dep 5 _ _ (by simp) rfl rfl ⟨_, rfl, by kernel_rfl⟩
      refine ⟨11, #[.slice a n c], by first | (go_simp; done) | (go_simp; rfl), ?_⟩
      refine (fewR a n c xs u (hR3.carry (Nat.le_refl _) h.s)).mono ?_
      rintro e u2 ⟨p, q, s, rfl, hq, hr2, hb2⟩
      rw [HP.out] at hr2
      exact ⟨_, rfl, ⟨p, q, s, rfl, hq, hr2⟩, hb2⟩
    case o7 =>
      refine ob_val 7 rfl rfl (by simp) (fun tm u h => ⟨?ow7, ?_⟩)
      case ow7 => exact wanted_of rfl rfl rfl (by rw [h.sz]; simp) (h.dep 2 _ _ (by simp) rfl rfl ⟨_, rfl, by kernel_rfl⟩)
      obtain ⟨a6, n6, c6, f6, hn6, hr6⟩ : fRd P 1000 (tm.getD 39 undef) u := h.dep 6 _ _ (by simp) rfl rfl ⟨_, rfl, by kernel_rfl⟩
      have hcv := (hr6).string
      rw [HtP.out] at hcv
      exact ⟨_, u, exec_conv rfl f6 hcv, rfl, Below.refl _ _⟩
    case o8 =>
      refine ob_val 8 rfl rfl (by simp) (fun tm u h => ⟨?ow8, ?_⟩)
      case ow8 => exact wanted_of rfl rfl rfl (by rw [h.sz]; simp) (h.dep 2 _ _ (by simp) rfl rfl ⟨_, rfl, by kernel_rfl⟩)
      have f4 : tm.getD 37 undef = .string tP := h.dep 4 _ _ (by simp) rfl rfl ⟨_, rfl, by kernel_rfl⟩
      have f7 : tm.getD 40 undef = .string tP := h.dep 7 _ _ (by simp) rfl rfl ⟨_, rfl, by kernel_rfl⟩
      refine ⟨.bool false, u, ?_, rfl, Below.refl _ _⟩
      first | (go_simp; done) | (go_simp; rfl)
    case o9 =>
      refine ob_val 9 rfl rfl (by simp) (fun tm u h => ⟨?ow9, ?_⟩)
      case ow9 => exact wanted_none rfl
      have f2 : tm.getD 35 undef = .bool false := h.dep 2 _ _ (by simp) rfl rfl ⟨_, rfl, by kernel_rfl⟩
      have f8 : tm.getD 41 undef = .bool false := h.dep 8 _ _ (by simp) rfl rfl ⟨_, rfl, by kernel_rfl⟩
      refine ⟨.bool false, u, ?_, rfl, Below.refl _ _⟩
      first | (go_simp; done) | (go_simp; rfl)
    case o10 =>
      refine ob_val 10 rfl rfl (by simp) (fun tm u h => ⟨?ow10, ?_⟩)
      case ow10 => exact wanted_none rfl
      have f9 : tm.getD 42 undef = .bool false := h.dep 9 _ _ (by simp) rfl rfl ⟨_, rfl, by kernel_rfl⟩
      exact ⟨.bool false, u, by first | (go_simp; done) | (go_simp; rfl), rfl, Below.refl _ _⟩
    case o11 =>
      refine ob_val 11 rfl rfl (by simp) (fun tm u h => ⟨?ow11, ?_⟩)
      case ow11 => exact wanted_of rfl rfl rfl (by rw [h.sz]; simp) (h.dep 10 _ _ (by simp) rfl rfl ⟨_, rfl, by kernel_rfl⟩)
      have s7 : tm.getD 7 undef = .string sE := h.same 7 (of_decide_eq_true (by kernel_rfl))
      exact ⟨.string sE, u, by first | (go_simp; done) | (go_simp; rfl), rfl, Below.refl _ _⟩
    case o12 =>
      refine ob_val 12 rfl rfl (by simp) (fun tm u h => ⟨?ow12, ?_⟩)
      case ow12 => exact wanted_of rfl rfl rfl (by rw [h.sz]; simp) (h.dep 10 _ _ (by simp) rfl rfl ⟨_, rfl, by kernel_rfl⟩)
      have f11 : tm.getD 44 undef = .string sE := h.dep 11 _ _ (by simp) rfl rfl ⟨_, rfl, by kernel_rfl⟩
      refine ⟨.int .i64 (L : Int), u, ?_, rfl, Below.refl _ _⟩
      first | (go_simp; done) | (go_simp; rfl)
    case o13 =>
      refine ob_val 13 rfl rfl (by simp) (fun tm u h => ⟨?ow13, ?_⟩)
      case ow13 => exact wanted_of rfl rfl rfl (by rw [h.sz]; simp) (h.dep 10 _ _ (by simp) rfl rfl ⟨_, rfl, by kernel_rfl⟩)
      have s3 : tm.getD 3 undef = .slice a n c := h.same 3 (of_decide_eq_true (by kernel_rfl))
      exact ⟨.slice a n c, u, by first | (go_simp; done) | (go_simp; rfl), rfl, Below.refl _ _⟩
    case o14 =>
      refine ob_call 14 rfl rfl (by simp) (fun tm u h => ⟨?ow14, ?_⟩)
      case ow14 => exact wanted_of rfl rfl rfl (by rw [h.sz]; simp) (h.dep 10 _ _ (by simp) rfl rfl ⟨_, rfl, by kernel_rfl⟩)
      have f13 : tm.getD 46 undef = .slice a n c := h.dep 13 _ _ (by simp) rfl rfl ⟨_, rfl, by kernel_rfl⟩
      refine ⟨11, #[.slice a n c], by first | (go_simp; done) | (go_simp; rfl), ?_⟩
      refine (fewR a n c xs u (hR3.carry (Nat.le_refl _) h.s)).mono ?_
      rintro e u2 ⟨p, q, s, rfl, hq, hr2, hb2⟩
      rw [HP.out] at hr2
      exact ⟨_, rfl, ⟨p, q, s, rfl, hq, hr2⟩, hb2⟩
    case o15 =>
      refine ob_val 15 rfl rfl (by simp) (fun tm u h => ⟨?ow15, ?_⟩)
      case ow15 => exact wanted_of rfl rfl rfl (by rw [h.sz]; simp) (h.dep 10 _ _ (by simp) rfl rfl ⟨_, rfl, by kernel_rfl⟩)
      obtain ⟨a14, n14, c14, f14, hn14, hr14⟩ : fRd P 1000 (tm.getD 47 undef) u := h.dep 14 _ _ (by simp) rfl rfl ⟨_, rfl, by kernel_rfl⟩
      have hm14 : n14 = m := by rw [← hr14.len]; exact HPl.out
      subst hm14
      refine ⟨.int .i64 (n14 : Int), u, ?_, rfl, Below.refl _ _⟩
      first | (go_simp; done) | (go_simp; rfl)
    case o16 =>
      refine ob_val 16 rfl rfl (by simp) (fun tm u h => ⟨?ow16, ?_⟩)
      case ow16 => exact wanted_of rfl rfl rfl (by rw [h.sz]; simp) (h.dep 10 _ _ (by simp) rfl rfl ⟨_, rfl, by kernel_rfl⟩)
      have f15 : tm.getD 48 undef = .int .i64 (m : Int) := h.dep 15 _ _ (by simp) rfl rfl ⟨_, rfl, by kernel_rfl⟩
      refine ⟨.int .i64 ((m : Int) + 2), u, ?_, rfl, Below.refl _ _⟩
      go_simp
      exact wi64' (by omega) (by omega) rfl
    case o17 =>
      refine ob_val 17 rfl rfl (by simp) (fun tm u h => ⟨?ow17, ?_⟩)
      case ow17 => exact wanted_of rfl rfl rfl (by rw [h.sz]; simp) (h.dep 10 _ _ (by simp) rfl rfl ⟨_, rfl, by kernel_rfl⟩)
      have f16 : tm.getD 49 undef = .int .i64 ((m : Int) + 2) := h.dep 16 _ _ (by simp) rfl rfl ⟨_, rfl, by kernel_rfl⟩
      refine ⟨.int .i64 (((m : Int) + 2) / 3), u, ?_, rfl, Below.refl _ _⟩
      go_simp
      exact (by rw [Int.tdiv_eq_ediv_of_nonneg (by omega)]; exact wi64' (by omega) (by omega) rfl)
    case o18 =>
      refine ob_val 18 rfl rfl (by simp) (fun tm u h => ⟨?ow18, ?_⟩)
      case ow18 => exact wanted_of rfl rfl rfl (by rw [h.sz]; simp) (h.dep 10 _ _ (by simp) rfl rfl ⟨_, rfl, by kernel_rfl⟩)
      have f17 : tm.getD 50 undef = .int .i64 (((m : Int) + 2) / 3) := h.dep 17 _ _ (by simp) rfl rfl ⟨_, rfl, by kernel_rfl⟩
      refine ⟨.int .i64 (L : Int), u, ?_, rfl, Below.refl _ _⟩
      go_simp
      exact wi64' (by omega) (by omega) rfl
    case o19 =>
      refine ob_val 19 rfl rfl (by simp) (fun tm u h => ⟨?ow19, ?_⟩)
      case ow19 => exact wanted_of rfl rfl rfl (by rw [h.sz]; simp) (h.dep 10 _ _ (by simp) rfl rfl ⟨_, rfl, by kernel_rfl⟩)
      have f12 : tm.getD 45 undef = .int .i64 (L : Int) := h.dep 12 _ _ (by simp) rfl rfl ⟨_, rfl, by kernel_rfl⟩
      have f18 : tm.getD 51 undef = .int .i64 (L : Int) := h.dep 18 _ _ (by simp) rfl rfl ⟨_, rfl, by kernel_rfl⟩
      refine ⟨.bool false, u, ?_, rfl, Below.refl _ _⟩
      first | (go_simp; done) | (go_simp; rfl)
    case o20 =>
      refine ob_val 20 rfl rfl (by simp) (fun tm u h => ⟨?ow20, ?_⟩)
      case ow20 => exact wanted_none rfl
      have f10 : tm.getD 43 undef = .bool false := h.dep 10 _ _ (by simp) rfl rfl ⟨_, rfl, by kernel_rfl⟩
      have f19 : tm.getD 52 undef = .bool false := h.dep 19 _ _ (by simp) rfl rfl ⟨_, rfl, by kernel_rfl⟩
      refine ⟨.bool false, u, ?_, rfl, Below.refl _ _⟩
      first | (go_simp; done) | (go_simp; rfl)
  intro af wf hAO
  have p53 : af.tmps.getD 53 undef = .bool false := hAO.got 20 _ _ rfl (by simp) rfl rfl
  have hs := hAO.s
  have hr8f := hr8.carry (Nat.le_refl _) hs
  have eF := frame_sets af.tmps [33, 34, 35, 36, 37, 38, 39, 40, 41, 42, 43, 44, 45, 46, 47, 48, 49, 50, 51, 52, 53] _ hAO.sz (fun d hd => hAO.same d (fun hq => hd ((show uDst _ _ = [33, 34, 35, 36, 37, 38, 39, 40, 41, 42, 43, 44, 45, 46, 47, 48, 49, 50, 51, 52, 53] from by kernel_rfl) ▸ hq)))
  simp only [List.foldl_cons, List.foldl_nil, List.setIfInBounds_toArray, List.set_cons_zero, List.set_cons_succ] at eF
  rw [p53] at eF
  generalize af.tmps.getD 33 undef = vF33 at eF
  generalize af.tmps.getD 34 undef = vF34 at eF
  generalize af.tmps.getD 35 undef = vF35 at eF
  generalize af.tmps.getD 36 undef = vF36 at eF
  generalize af.tmps.getD 37 undef = vF37 at eF
  generalize af.tmps.getD 38 undef = vF38 at eF
  generalize af.tmps.getD 39 undef = vF39 at eF
  generalize af.tmps.getD 40 undef = vF40 at eF
  generalize af.tmps.getD 41 undef = vF41 at eF
  generalize af.tmps.getD 42 undef = vF42 at eF
  generalize af.tmps.getD 43 undef = vF43 at eF
  generalize af.tmps.getD 44 undef = vF44 at eF
  generalize af.tmps.getD 45 undef = vF45 at eF
  generalize af.tmps.getD 46 undef = vF46 at eF
  generalize af.tmps.getD 47 undef = vF47 at eF
  generalize af.tmps.getD 48 undef = vF48 at eF
  generalize af.tmps.getD 49 undef = vF49 at eF
  generalize af.tmps.getD 50 undef = vF50 at eF
  generalize af.tmps.getD 51 undef = vF51 at eF
  generalize af.tmps.getD 52 undef = vF52 at eF
  obtain ⟨tm, dfx⟩ := af
  obtain rfl : dfx = [] := hAO.df
  simp only at eF
  subst eF
  clear hAO p53
  refine lx_nil (by kernel_rfl) ?_
  have e5 : Below w.heap.size w wf := HB4.out.drew.trans (hs.mono HB4.out.drew.size)
  clear hs HB4 hr8 hR3
  by_cases h0 : L = 0
  · subst h0
    clear hL3 hL1 HL HLE
    skip
    go_wp2_with (first
      | (go_at_call 7; refine (text_any S 1000 _ hS (by omega)).mono ?_; rw [HsX.out]; rintro e w8 ⟨rfl, rfl⟩)
      | (go_at_call 8; refine (cX _).mono ?_; rintro e w9 ⟨a9, n9, c9, rfl, hr9, hN9, hb9⟩; have hl9 := hr9.len; rw [List.length_nil] at hl9; subst hl9; clear hN9 hr9)
      | (go_at_call 13; refine (wakes_any _).mono ?_; rintro e w11 ⟨rfl, hb11⟩))
    go_ret
    have q9 := e5.trans (hb9.mono e5.size)
    exact ⟨rfl, q9.trans (hb11.mono q9.size)⟩
  · have hLp : (0 : Int) < (L : Int) := by omega
    obtain ⟨k, hk, hkL⟩ := tmL I L (by omega) (by omega)
    have hki : (k : Int) < (L : Int) := by omega
    have hLz : ((L : Int) == 0) = false := by simp; omega
    obtain ⟨c5, w5, hcv5, hr5, hfz5, hb5⟩ := bytes_run sE wf (by omega)
    rw [hzE] at hcv5 hr5 hfz5
    have hnE : nums sE = enc P := by rw [← HsE.out]; exact nums_str (enc_bd bP.out)
    rw [hnE] at hr5
    have hc5 := hr5.cells _ rfl k hkL
    rw [add_flat, Nat.zero_add] at hc5
    have hf5 := hfz5 k hkL
    have hr6 := hr5.setAt hkL hJ0 hJ1
    have bE' : Bd ((enc P).set k J) := hr6.bytes
    have lE' : ((enc P).set k J).length ≤ 1000000 := by rw [List.length_set, HLE.out]; omega
    obtain ⟨E, HE⟩ : ∃ E, Hid ((enc P).set k J = E) := ⟨_, rfl⟩
    rw [HE.out] at hr6 bE' lE'
    have b6 : Below wf.heap.size wf (w5.setCell ⟨wf.heap.size, k, none⟩ (.int .u8 J)) := hb5.setCell (Nat.le_refl _) _
    obtain ⟨w6, hw6⟩ : ∃ w6, w5.setCell ⟨wf.heap.size, k, none⟩ (.int .u8 J) = w6 := ⟨_, rfl⟩
    rw [hw6] at hr6 b6
    have hcv6 := hr6.string
    obtain ⟨sT, HsT⟩ : ∃ s, Hid (strOfNums E = s) := ⟨_, rfl⟩
    rw [HsT.out] at hcv6
    have e6 := e5.trans (b6.mono e5.size)
    have hr8g := hr8f.carry (Nat.le_refl _) b6
    have hcap5 := hr5.cap
    clear hfz5 hr5 hb5 hnE hr8f b6 e5 hkL h0
    rcases hdE : dec E with _ | d
    · have cT := fun u => decodeR E [] 2 u bE' lE' (by rw [hdE]; rfl) (by rw [hdE]; rfl)
      simp only [HsT.out] at cT
      clear hdE bE' lE'
      go_wp2_with (first
        | (go_at_call 8; rw [hw6] at *; refine (cT _).mono ?_; rintro e w7 ⟨a7, n7, c7, rfl, hr7, hN7, hb7⟩; clear hN7 cT)
        | fail)
      have e7 := e6.trans (hb7.mono e6.size)
      clear hr7 hb7 hr6 hcv6 hr8g hk hki hLz hLp hc5 hf5 hcv5 e6
      skip
      go_wp2_with (first
        | (go_at_call 7; refine (text_any S 1000 _ hS (by omega)).mono ?_; rw [HsX.out]; rintro e w8 ⟨rfl, rfl⟩)
        | (go_at_call 8; refine (cX _).mono ?_; rintro e w9 ⟨a9, n9, c9, rfl, hr9, hN9, hb9⟩; have hl9 := hr9.len; rw [List.length_nil] at hl9; subst hl9; clear hN9 hr9)
        | (go_at_call 13; refine (wakes_any _).mono ?_; rintro e w11 ⟨rfl, hb11⟩))
      go_ret
      have q9 := e7.trans (hb9.mono e7.size)
      exact ⟨rfl, q9.trans (hb11.mono q9.size)⟩
    · have hEd := dec_some hdE
      have cT := fun u => decodeR E d 0 u bE' lE' (by rw [hdE]; rfl) (by rw [hdE]; rfl)
      simp only [HsT.out] at cT
      obtain ⟨sD, HsD⟩ : ∃ s, Hid (strOfNums d = s) := ⟨_, rfl⟩
      by_cases hsame : E = enc P
      · have hTE : sT = sE := by rw [← HsT.out, hsame, HsE.out]
        subst hTE
        clear hdE bE' lE' hsame hEd
        go_wp2_with (first
          | (go_at_call 8; rw [hw6] at *; refine (cT _).mono ?_; rintro e w7 ⟨a7, n7, c7, rfl, hr7, hN7, hb7⟩; have hcv7 := (hr6.carry (Nat.le_refl _) hb7).string; rw [HsT.out] at hcv7; clear hN7 cT)
          | fail)
        have e7 := e6.trans (hb7.mono e6.size)
        clear hr7 hb7 hr6 hcv6 hr8g hk hki hLz hLp hc5 hf5 hcv5 e6 hcv7
        skip
        go_wp2_with (first
          | (go_at_call 7; refine (text_any S 1000 _ hS (by omega)).mono ?_; rw [HsX.out]; rintro e w8 ⟨rfl, rfl⟩)
          | (go_at_call 8; refine (cX _).mono ?_; rintro e w9 ⟨a9, n9, c9, rfl, hr9, hN9, hb9⟩; have hl9 := hr9.len; rw [List.length_nil] at hl9; subst hl9; clear hN9 hr9)
          | (go_at_call 13; refine (wakes_any _).mono ?_; rintro e w11 ⟨rfl, hb11⟩))
        go_ret
        have q9 := e7.trans (hb9.mono e7.size)
        exact ⟨rfl, q9.trans (hb11.mono q9.size)⟩
      · have hne : (sT.toList == sE.toList) = false := by rw [← HsT.out, ← HsE.out]; exact str_ne bE' (enc_bd bP.out) hsame
        have hdc : (sD.toList == tP.toList) = false := by
          rw [← HsD.out, ← HtP.out]
          exact str_ne hEd.2 bP.out (fun e => hsame (by rw [← hEd.1, e]))
        clear hdE bE' lE' hsame hEd
        go_wp2_with (first
          | (go_at_call 8; rw [hw6] at *; refine (cT _).mono ?_; rintro e w7 ⟨a7, n7, c7, rfl, hr7, hN7, hb7⟩; have hcv7 := (hr6.carry (Nat.le_refl _) hb7).string; rw [HsT.out] at hcv7; have hcd7 := hr7.string; rw [HsD.out] at hcd7; have hcp7 := (hr8g.carry (Nat.le_refl _) hb7).string; rw [HtP.out] at hcp7; clear hN7 cT)
          | fail)
        have e7 := e6.trans (hb7.mono e6.size)
        clear hr7 hb7 hr6 hcv6 hr8g hk hki hLz hLp hc5 hf5 hcv5 e6 hcv7 hcd7 hcp7 hne hdc
        skip
        go_wp2_with (first
          | (go_at_call 7; refine (text_any S 1000 _ hS (by omega)).mono ?_; rw [HsX.out]; rintro e w8 ⟨rfl, rfl⟩)
          | (go_at_call 8; refine (cX _).mono ?_; rintro e w9 ⟨a9, n9, c9, rfl, hr9, hN9, hb9⟩; have hl9 := hr9.len; rw [List.length_nil] at hl9; subst hl9; clear hN9 hr9)
          | (go_at_call 13; refine (wakes_any _).mono ?_; rintro e w11 ⟨rfl, hb11⟩))
        go_ret
        have q9 := e7.trans (hb9.mono e7.size)
        exact ⟨rfl, q9.trans (hb11.mono q9.size)⟩
set_option maxRecDepth 100000 in
set_option maxHeartbeats 8000000 in
theorem walkS (a : Option Addr) (n c : Nat) (xs : List Int) (S : ByteArray) (I J : Int) (w : World) (hR : Rd w a n c xs) (hS : S.size ≤ 9223372036854775807) (hJ0 : 0 ≤ J) (hJ1 : J ≤ 255) (D : List Int) (hdX : dec ((nums S).take 1000) = some D) :
    Calls Try.prog 4 #[.agg #[.slice a n c, .string S, .int .i64 I, .int .u8 J]] w fun e w' => e = .returned (.bool true) ∧ Below w.heap.size w w' := by
  obtain ⟨P, HP⟩ : ∃ P, Hid (xs.take 1000 = P) := ⟨_, rfl⟩
  obtain ⟨m, HPl⟩ : ∃ m, Hid (P.length = m) := ⟨_, rfl⟩
  have hm : m ≤ 1000 := by rw [← HPl.out, ← HP.out, List.length_take]; omega
  have bP : Hid (Bd P) := by show Bd P; rw [← HP.out]; exact hR.bytes.take _
  obtain ⟨L, hL⟩ : ∃ L : Nat, L = (m + 2) / 3 * 4 := ⟨_, rfl⟩
  have hLE : (enc P).length = L := by rw [enc_len, HPl.out, hL]
  have cE := fun u p q s (h : Rd u p q s P) (hq : q ≤ 1000) => encode_any p q s P u h (by omega)
  have cD := fun u => decodeR (enc P) P 0 u (enc_bd bP.out) (by rw [hLE]; omega) (by rw [dec_enc bP.out]; rfl) (by rw [dec_enc bP.out]; rfl)
  obtain ⟨sE, HsE⟩ : ∃ s, Hid (strOfNums (enc P) = s) := ⟨_, rfl⟩
  obtain ⟨tP, HtP⟩ : ∃ s, Hid (strOfNums P = s) := ⟨_, rfl⟩
  simp only [HsE.out] at cE cD
  have hzE : sE.size = L := by rw [← HsE.out, str_size, hLE]
  have HLE : Hid ((enc P).length = L) := hLE
  have HL : Hid (L = (m + 2) / 3 * 4) := hL
  have hL3 : ((m : Int) + 2) / 3 * 4 = (L : Int) := by omega
  have hL1 : L ≤ 1400 := by omega
  obtain ⟨X, HX⟩ : ∃ X, Hid ((nums S).take 1000 = X) := ⟨_, rfl⟩
  have bX : Bd X := by rw [← HX.out]; exact (nums_bd S).take _
  have lX : X.length ≤ 1000 := by rw [← HX.out, List.length_take]; omega
  rw [HX.out] at hdX
  have cX := fun u => decodeR X D 0 u bX (by omega) (by rw [hdX]; rfl) (by rw [hdX]; rfl)
  obtain ⟨sX, HsX0⟩ : ∃ s, Hid (strOfNums X = s) := ⟨_, rfl⟩
  have HsX : Hid (strOfNums ((nums S).take 1000) = sX) := by show _ = _; rw [HX.out]; exact HsX0.out
  simp only [HsX0.out] at cX
  have hED := (dec_some hdX).1
  have hlD : D.length ≤ 1000 := by have := enc_len D; rw [hED] at this; omega
  have HX2 : Hid (D.length = D.length) := rfl
  have eX := fun u p q s (h : Rd u p q s D) (hq : q ≤ 1000) => encode_any p q s D u h (by omega)
  simp only [hED, HsX0.out] at eX
  clear hED
  clear hLE hL lX bX hdX
  go_enter Try.func4, Try.ntmps4
  go_wp2
  go_quiet (fail)
  go_wp2_with fail
  obtain ⟨w1, hw1⟩ : ∃ w1, (w.alloc (.cells #[.slice a n c, .string S, .int .i64 I, .int .u8 J] 34)).drewN nq = w1 := ⟨_, rfl⟩
  have b1 : Below w.heap.size w w1 := by rw [← hw1]; exact below_drewN ((Below.refl _ _).alloc (Nat.le_refl _) _) _
  rw [hw1]
  clear hw1
  refine (fewR a n c xs _ (hR.carry (Nat.le_refl _) b1)).mono ?_
  rw [HP.out]
  rintro e w2 ⟨a2, n2, c2, rfl, hn2, hr2, hb2⟩
  go_wp2_with fail
  refine (cE _ _ _ _ hr2 hn2).mono ?_
  rintro e w3 ⟨rfl, hb3⟩
  have b2 := b1.trans (hb2.mono b1.size)
  have b3 := b2.trans (hb3.mono b2.size)
  clear hr2 hb2 hb3 b1 b2
  go_wp2_with fail
  refine (cD _).mono ?_
  rintro e w4 ⟨a8, n8, c8, rfl, hr8', hN8, hb4⟩
  have b4 := b3.trans (hb4.mono b3.size)
  have hR3 := rd_drewN (hR.carry (Nat.le_refl _) b4) 1
  have hr8 := rd_drewN hr8' 1
  clear hN8 hb4 b3 cE cD hr8'
  have HB4 : Hid (Below w.heap.size w w4) := b4
  have H2 : (0 : Int) ≤ (m : Int) := by omega
  clear b4
  go_wp2_with fail
  refine wp_region_facts [0, 1, 2, 3, 4, 5, 6, 7, 8, 9, 10, 11, 12, 13, 14, 15, 16, 17, 18, 19, 20] (Gl [(fEq (.int .i64 0)), (fEq (.bool false)), (fEq (.bool false)), (fEq (.slice a8 n8 c8)), (fEq (.string tP)), (fEq (.slice a n c)), (fRd P 1000), (fEq (.string tP)), (fEq (.bool false)), (fEq (.bool false)), (fEq (.bool false)), (fEq (.string sE)), (fEq (.int .i64 (L : Int))), (fEq (.slice a n c)), (fRd P 1000), (fEq (.int .i64 (m : Int))), (fEq (.int .i64 ((m : Int) + 2))), (fEq (.int .i64 (((m : Int) + 2) / 3))), (fEq (.int .i64 (L : Int))), (fEq (.bool false)), (fEq (.bool false))]) 21 0 (by kernel_rfl) (by kernel_rfl) rfl (by kernel_rfl) (lasts_list ?olst) ?oob ?_
  case olst =>
    intro g hg
    simp only [List.mem_cons, List.not_mem_nil, or_false] at hg
    rcases hg with rfl | rfl | rfl | rfl | rfl | rfl | rfl | rfl | rfl | rfl | rfl | rfl | rfl | rfl | rfl | rfl | rfl | rfl | rfl | rfl | rfl
    · exact lasts_eq _
    · exact lasts_eq _
    · exact lasts_eq _
    · exact lasts_eq _
    · exact lasts_eq _
    · exact lasts_eq _
    · exact lasts_rd _ _
    · exact lasts_eq _
    · exact lasts_eq _
    · exact lasts_eq _
    · exact lasts_eq _
    · exact lasts_eq _
    · exact lasts_eq _
    · exact lasts_eq _
    · exact lasts_rd _ _
    · exact lasts_eq _
    · exact lasts_eq _
    · exact lasts_eq _
    · exact lasts_eq _
    · exact lasts_eq _
    · exact lasts_eq _
  case oob =>
    refine (allIn_cons ?o0 (allIn_cons ?o1 (allIn_cons ?o2 (allIn_cons ?o3 (allIn_cons ?o4 (allIn_cons ?o5 (allIn_cons ?o6 (allIn_cons ?o7 (allIn_cons ?o8 (allIn_cons ?o9 (allIn_cons ?o10 (allIn_cons ?o11 (allIn_cons ?o12 (allIn_cons ?o13 (allIn_cons ?o14 (allIn_cons ?o15 (allIn_cons ?o16 (allIn_cons ?o17 (allIn_cons ?o18 (allIn_cons ?o19 (allIn_cons ?o20 allIn_nil)))))))))))))))))))))
    case o0 =>
      refine ob_val 0 rfl rfl (by simp) (fun tm u h => ⟨?ow0, ?_⟩)
      case ow0 => exact wanted_none rfl
      have s9 : tm.getD 9 undef = .int .i64 0 := h.same 9 (of_decide_eq_true (by kernel_rfl))
      exact ⟨.int .i64 0, u, by first | (go_simp; done) | (go_simp; rfl), rfl, Below.refl _ _⟩
    case o1 =>
      refine ob_val 1 rfl rfl (by simp) (fun tm u h => ⟨?ow1, ?_⟩)
      case ow1 => exact wanted_none rfl
      have f0 : tm.getD 33 undef = .int .i64 0 := h.dep 0 _ _ (by simp) rfl rfl ⟨_, rfl, by kernel_rfl⟩
      refine ⟨.bool false, u, ?_, rfl, Below.refl _ _⟩
      first | (go_simp; done) | (go_simp; rfl)
    case o2 =>
      refine ob_val 2 rfl rfl (by simp) (fun tm u h => ⟨?ow2, ?_⟩)
      case ow2 => exact wanted_none rfl
      have f1 : tm.getD 34 undef = .bool false := h.dep 1 _ _ (by simp) rfl rfl ⟨_, rfl, by kernel_rfl⟩
      exact ⟨.bool false, u, by first | (go_simp; done) | (go_simp; rfl), rfl, Below.refl _ _⟩
    case o3 =>
      refine ob_val 3 rfl rfl (by simp) (fun tm u h => ⟨?ow3, ?_⟩)
      case ow3 => exact wanted_of rfl rfl rfl (by rw [h.sz]; simp) (h.dep 2 _ _ (by simp) rfl rfl ⟨_, rfl, by kernel_rfl⟩)
      have s8 : tm.getD 8 undef = .slice a8 n8 c8 := h.same 8 (of_decide_eq_true (by kernel_rfl))
      exact ⟨.slice a8 n8 c8, u, by first | (go_simp; done) | (go_simp; rfl), rfl, Below.refl _ _⟩
    case o4 =>
      refine ob_val 4 rfl rfl (by simp) (fun tm u h => ⟨?ow4, ?_⟩)
      case ow4 => exact wanted_of rfl rfl rfl (by rw [h.sz]; simp) (h.dep 2 _ _ (by simp) rfl rfl ⟨_, rfl, by kernel_rfl⟩)
      have f3 : tm.getD 36 undef = .slice a8 n8 c8 := h.dep 3 _ _ (by simp) rfl rfl ⟨_, rfl, by kernel_rfl⟩
      have hcv := (hr8.carry (Nat.le_refl _) h.s).string
      rw [HtP.out] at hcv
      exact ⟨_, u, exec_conv rfl f3 hcv, rfl, Below.refl _ _⟩
    case o5 =>
      refine ob_val 5 rfl rfl (by simp) (fun tm u h => ⟨?ow5, ?_⟩)
      case ow5 => exact wanted_of rfl rfl rfl (by rw [h.sz]; simp) (h.dep 2 _ _ (by simp) rfl rfl ⟨_, rfl, by kernel_rfl⟩)
      have s3 : tm.getD 3 undef = .slice a n c := h.same 3 (of_decide_eq_true (by kernel_rfl))
      exact ⟨.slice a n c, u, by first | (go_simp; done) | (go_simp; rfl), rfl, Below.refl _ _⟩
    case o6 =>
      refine ob_call 6 rfl rfl (by simp) (fun tm u h => ⟨?ow6, ?_⟩)
      case ow6 => exact wanted_of rfl rfl rfl (by rw [h.sz]; simp) (h.dep 2 _ _ (by simp) rfl rfl ⟨_, rfl, by kernel_rfl⟩)
      have f5 : tm.getD 38 undef = .slice a n c := h.dep 5 _ _ (by simp) rfl rfl ⟨_, rfl, by kernel_rfl⟩
      refine ⟨11, #[.slice a n c], by first | (go_simp; done) | (go_simp; rfl), ?_⟩
      refine (fewR a n c xs u (hR3.carry (Nat.le_refl _) h.s)).mono ?_
      rintro e u2 ⟨p, q, s, rfl, hq, hr2, hb2⟩
      rw [HP.out] at hr2
      exact ⟨_, rfl, ⟨p, q, s, rfl, hq, hr2⟩, hb2⟩
    case o7 =>
      refine ob_val 7 rfl rfl (by simp) (fun tm u h => ⟨?ow7, ?_⟩)
      case ow7 => exact wanted_of rfl rfl rfl (by rw [h.sz]; simp) (h.dep 2 _ _ (by simp) rfl rfl ⟨_, rfl, by kernel_rfl⟩)
      obtain ⟨a6, n6, c6, f6, hn6, hr6⟩ : fRd P 1000 (tm.getD 39 undef) u := h.dep 6 _ _ (by simp) rfl rfl ⟨_, rfl, by kernel_rfl⟩
      have hcv := (hr6).string
      rw [HtP.out] at hcv
      exact ⟨_, u, exec_conv rfl f6 hcv, rfl, Below.refl _ _⟩
    case o8 =>
      refine ob_val 8 rfl rfl (by simp) (fun tm u h => ⟨?ow8, ?_⟩)
      case ow8 => exact wanted_of rfl rfl rfl (by rw [h.sz]; simp) (h.dep 2 _ _ (by simp) rfl rfl ⟨_, rfl, by kernel_rfl⟩)
      have f4 : tm.getD 37 undef = .string tP := h.dep 4 _ _ (by simp) rfl rfl ⟨_, rfl, by kernel_rfl⟩
      have f7 : tm.getD 40 undef = .string tP := h.dep 7 _ _ (by simp) rfl rfl ⟨_, rfl, by kernel_rfl⟩
      refine ⟨.bool false, u, ?_, rfl, Below.refl _ _⟩
      first | (go_simp; done) | (go_simp; rfl)
    case o9 =>
      refine ob_val 9 rfl rfl (by simp) (fun tm u h => ⟨?ow9, ?_⟩)
      case ow9 => exact wanted_none rfl
      have f2 : tm.getD 35 undef = .bool false := h.dep 2 _ _ (by simp) rfl rfl ⟨_, rfl, by kernel_rfl⟩
      have f8 : tm.getD 41 undef = .bool false := h.dep 8 _ _ (by simp) rfl rfl ⟨_, rfl, by kernel_rfl⟩
      refine ⟨.bool false, u, ?_, rfl, Below.refl _ _⟩
      first | (go_simp; done) | (go_simp; rfl)
    case o10 =>
      refine ob_val 10 rfl rfl (by simp) (fun tm u h => ⟨?ow10, ?_⟩)
      case ow10 => exact wanted_none rfl
      have f9 : tm.getD 42 undef = .bool false := h.dep 9 _ _ (by simp) rfl rfl ⟨_, rfl, by kernel_rfl⟩
      exact ⟨.bool false, u, by first | (go_simp; done) | (go_simp; rfl), rfl, Below.refl _ _⟩
    case o11 =>
      refine ob_val 11 rfl rfl (by simp) (fun tm u h => ⟨?ow11, ?_⟩)
      case ow11 => exact wanted_of rfl rfl rfl (by rw [h.sz]; simp) (h.dep 10 _ _ (by simp) rfl rfl ⟨_, rfl, by kernel_rfl⟩)
      have s7 : tm.getD 7 undef = .string sE := h.same 7 (of_decide_eq_true (by kernel_rfl))
      exact ⟨.string sE, u, by first | (go_simp; done) | (go_simp; rfl), rfl, Below.refl _ _⟩
    case o12 =>
      refine ob_val 12 rfl rfl (by simp) (fun tm u h => ⟨?ow12, ?_⟩)
      case ow12 => exact wanted_of rfl rfl rfl (by rw [h.sz]; simp) (h.dep 10 _ _ (by simp) rfl rfl ⟨_, rfl, by kernel_rfl⟩)
      have f11 : tm.getD 44 undef = .string sE := h.dep 11 _ _ (by simp) rfl rfl ⟨_, rfl, by kernel_rfl⟩
      refine ⟨.int .i64 (L : Int), u, ?_, rfl, Below.refl _ _⟩
      first | (go_simp; done) | (go_simp; rfl)
    case o13 =>
      refine ob_val 13 rfl rfl (by simp) (fun tm u h => ⟨?ow13, ?_⟩)
      case ow13 => exact wanted_of rfl rfl rfl (by rw [h.sz]; simp) (h.dep 10 _ _ (by simp) rfl rfl ⟨_, rfl, by kernel_rfl⟩)
      have s3 : tm.getD 3 undef = .slice a n c := h.same 3 (of_decide_eq_true (by kernel_rfl))
      exact ⟨.slice a n c, u, by first | (go_simp; done) | (go_simp; rfl), rfl, Below.refl _ _⟩
    case o14 =>
      refine ob_call 14 rfl rfl (by simp) (fun tm u h => ⟨?ow14, ?_⟩)
      case ow14 => exact wanted_of rfl rfl rfl (by rw [h.sz]; simp) (h.dep 10 _ _ (by simp) rfl rfl ⟨_, rfl, by kernel_rfl⟩)
      have f13 : tm.getD 46 undef = .slice a n c := h.dep 13 _ _ (by simp) rfl rfl ⟨_, rfl, by kernel_rfl⟩
      refine ⟨11, #[.slice a n c], by first | (go_simp; done) | (go_simp; rfl), ?_⟩
      refine (fewR a n c xs u (hR3.carry (Nat.le_refl _) h.s)).mono ?_
      rintro e u2 ⟨p, q, s, rfl, hq, hr2, hb2⟩
      rw [HP.out] at hr2
      exact ⟨_, rfl, ⟨p, q, s, rfl, hq, hr2⟩, hb2⟩
    case o15 =>
      refine ob_val 15 rfl rfl (by simp) (fun tm u h => ⟨?ow15, ?_⟩)
      case ow15 => exact wanted_of rfl rfl rfl (by rw [h.sz]; simp) (h.dep 10 _ _ (by simp) rfl rfl ⟨_, rfl, by kernel_rfl⟩)
      obtain ⟨a14, n14, c14, f14, hn14, hr14⟩ : fRd P 1000 (tm.getD 47 undef) u := h.dep 14 _ _ (by simp) rfl rfl ⟨_, rfl, by kernel_rfl⟩
      have hm14 : n14 = m := by rw [← hr14.len]; exact HPl.out
      subst hm14
      refine ⟨.int .i64 (n14 : Int), u, ?_, rfl, Below.refl _ _⟩
      first | (go_simp; done) | (go_simp; rfl)
    case o16 =>
      refine ob_val 16 rfl rfl (by simp) (fun tm u h => ⟨?ow16, ?_⟩)
      case ow16 => exact wanted_of rfl rfl rfl (by rw [h.sz]; simp) (h.dep 10 _ _ (by simp) rfl rfl ⟨_, rfl, by kernel_rfl⟩)
      have f15 : tm.getD 48 undef = .int .i64 (m : Int) := h.dep 15 _ _ (by simp) rfl rfl ⟨_, rfl, by kernel_rfl⟩
      refine ⟨.int .i64 ((m : Int) + 2), u, ?_, rfl, Below.refl _ _⟩
      go_simp
      exact wi64' (by omega) (by omega) rfl
    case o17 =>
      refine ob_val 17 rfl rfl (by simp) (fun tm u h => ⟨?ow17, ?_⟩)
      case ow17 => exact wanted_of rfl rfl rfl (by rw [h.sz]; simp) (h.dep 10 _ _ (by simp) rfl rfl ⟨_, rfl, by kernel_rfl⟩)
      have f16 : tm.getD 49 undef = .int .i64 ((m : Int) + 2) := h.dep 16 _ _ (by simp) rfl rfl ⟨_, rfl, by kernel_rfl⟩
      refine ⟨.int .i64 (((m : Int) + 2) / 3), u, ?_, rfl, Below.refl _ _⟩
      go_simp
      exact (by rw [Int.tdiv_eq_ediv_of_nonneg (by omega)]; exact wi64' (by omega) (by omega) rfl)
    case o18 =>
      refine ob_val 18 rfl rfl (by simp) (fun tm u h => ⟨?ow18, ?_⟩)
      case ow18 => exact wanted_of rfl rfl rfl (by rw [h.sz]; simp) (h.dep 10 _ _ (by simp) rfl rfl ⟨_, rfl, by kernel_rfl⟩)
      have f17 : tm.getD 50 undef = .int .i64 (((m : Int) + 2) / 3) := h.dep 17 _ _ (by simp) rfl rfl ⟨_, rfl, by kernel_rfl⟩
      refine ⟨.int .i64 (L : Int), u, ?_, rfl, Below.refl _ _⟩
      go_simp
      exact wi64' (by omega) (by omega) rfl
    case o19 =>
      refine ob_val 19 rfl rfl (by simp) (fun tm u h => ⟨?ow19, ?_⟩)
      case ow19 => exact wanted_of rfl rfl rfl (by rw [h.sz]; simp) (h.dep 10 _ _ (by simp) rfl rfl ⟨_, rfl, by kernel_rfl⟩)
      have f12 : tm.getD 45 undef = .int .i64 (L : Int) := h.dep 12 _ _ (by simp) rfl rfl ⟨_, rfl, by kernel_rfl⟩
      have f18 : tm.getD 51 undef = .int .i64 (L : Int) := h.dep 18 _ _ (by simp) rfl rfl ⟨_, rfl, by kernel_rfl⟩
      refine ⟨.bool false, u, ?_, rfl, Below.refl _ _⟩
      first | (go_simp; done) | (go_simp; rfl)
    case o20 =>
      refine ob_val 20 rfl rfl (by simp) (fun tm u h => ⟨?ow20, ?_⟩)
      case ow20 => exact wanted_none rfl
      have f10 : tm.getD 43 undef = .bool false := h.dep 10 _ _ (by simp) rfl rfl ⟨_, rfl, by kernel_rfl⟩
      have f19 : tm.getD 52 undef = .bool false := h.dep 19 _ _ (by simp) rfl rfl ⟨_, rfl, by kernel_rfl⟩
      refine ⟨.bool false, u, ?_, rfl, Below.refl _ _⟩
      first | (go_simp; done) | (go_simp; rfl)
  intro af wf hAO
  have p53 : af.tmps.getD 53 undef = .bool false := hAO.got 20 _ _ rfl (by simp) rfl rfl
  have hs := hAO.s
  have hr8f := hr8.carry (Nat.le_refl _) hs
  have eF := frame_sets af.tmps [33, 34, 35, 36, 37, 38, 39, 40, 41, 42, 43, 44, 45, 46, 47, 48, 49, 50, 51, 52, 53] _ hAO.sz (fun d hd => hAO.same d (fun hq => hd ((show uDst _ _ = [33, 34, 35, 36, 37, 38, 39, 40, 41, 42, 43, 44, 45, 46, 47, 48, 49, 50, 51, 52, 53] from by kernel_rfl) ▸ hq)))
  simp only [List.foldl_cons, List.foldl_nil, List.setIfInBounds_toArray, List.set_cons_zero, List.set_cons_succ] at eF
  rw [p53] at eF
  generalize af.tmps.getD 33 undef = vF33 at eF
  generalize af.tmps.getD 34 undef = vF34 at eF
  generalize af.tmps.getD 35 undef = vF35 at eF
  generalize af.tmps.getD 36 undef = vF36 at eF
  generalize af.tmps.getD 37 undef = vF37 at eF
  generalize af.tmps.getD 38 undef = vF38 at eF
  generalize af.tmps.getD 39 undef = vF39 at eF
  generalize af.tmps.getD 40 undef = vF40 at eF
  generalize af.tmps.getD 41 undef = vF41 at eF
  generalize af.tmps.getD 42 undef = vF42 at eF
  generalize af.tmps.getD 43 undef = vF43 at eF
  generalize af.tmps.getD 44 undef = vF44 at eF
  generalize af.tmps.getD 45 undef = vF45 at eF
  generalize af.tmps.getD 46 undef = vF46 at eF
  generalize af.tmps.getD 47 undef = vF47 at eF
  generalize af.tmps.getD 48 undef = vF48 at eF
  generalize af.tmps.getD 49 undef = vF49 at eF
  generalize af.tmps.getD 50 undef = vF50 at eF
  generalize af.tmps.getD 51 undef = vF51 at eF
  generalize af.tmps.getD 52 undef = vF52 at eF
  obtain ⟨tm, dfx⟩ := af
  obtain rfl : dfx = [] := hAO.df
  simp only at eF
  subst eF
  clear hAO p53
  refine lx_nil (by kernel_rfl) ?_
  have e5 : Below w.heap.size w wf := HB4.out.drew.trans (hs.mono HB4.out.drew.size)
  clear hs HB4 hr8 hR3
  by_cases h0 : L = 0
  · subst h0
    clear hL3 hL1 HL HLE
    skip
    go_wp2_with (first
      | (go_at_call 7; refine (text_any S 1000 _ hS (by omega)).mono ?_; rw [HsX.out]; rintro e w8 ⟨rfl, rfl⟩)
      | (go_at_call 8; refine (cX _).mono ?_; rintro e w9 ⟨a9, n9, c9, rfl, hr9, hN9, hb9⟩; have hl9 := hr9.len; clear hN9)
      | (go_at_call 10; refine (eX _ _ _ _ hr9 (by omega)).mono ?_; rintro e w10 ⟨rfl, hb10⟩)
      | (go_at_call 13; refine (wakes_any _).mono ?_; rintro e w11 ⟨rfl, hb11⟩))
    go_ret
    have q9 := e5.trans (hb9.mono e5.size)
    have q10 := q9.trans (hb10.mono q9.size)
    exact ⟨rfl, q10.trans (hb11.mono q10.size)⟩
  · have hLp : (0 : Int) < (L : Int) := by omega
    obtain ⟨k, hk, hkL⟩ := tmL I L (by omega) (by omega)
    have hki : (k : Int) < (L : Int) := by omega
    have hLz : ((L : Int) == 0) = false := by simp; omega
    obtain ⟨c5, w5, hcv5, hr5, hfz5, hb5⟩ := bytes_run sE wf (by omega)
    rw [hzE] at hcv5 hr5 hfz5
    have hnE : nums sE = enc P := by rw [← HsE.out]; exact nums_str (enc_bd bP.out)
    rw [hnE] at hr5
    have hc5 := hr5.cells _ rfl k hkL
    rw [add_flat, Nat.zero_add] at hc5
    have hf5 := hfz5 k hkL
    have hr6 := hr5.setAt hkL hJ0 hJ1
    have bE' : Bd ((enc P).set k J) := hr6.bytes
    have lE' : ((enc P).set k J).length ≤ 1000000 := by rw [List.length_set, HLE.out]; omega
    obtain ⟨E, HE⟩ : ∃ E, Hid ((enc P).set k J = E) := ⟨_, rfl⟩
    rw [HE.out] at hr6 bE' lE'
    have b6 : Below wf.heap.size wf (w5.setCell ⟨wf.heap.size, k, none⟩ (.int .u8 J)) := hb5.setCell (Nat.le_refl _) _
    obtain ⟨w6, hw6⟩ : ∃ w6, w5.setCell ⟨wf.heap.size, k, none⟩ (.int .u8 J) = w6 := ⟨_, rfl⟩
    rw [hw6] at hr6 b6
    have hcv6 := hr6.string
    obtain ⟨sT, HsT⟩ : ∃ s, Hid (strOfNums E = s) := ⟨_, rfl⟩
    rw [HsT.out] at hcv6
    have e6 := e5.trans (b6.mono e5.size)
    have hr8g := hr8f.carry (Nat.le_refl _) b6
    have hcap5 := hr5.cap
    clear hfz5 hr5 hb5 hnE hr8f b6 e5 hkL h0
    rcases hdE : dec E with _ | d
    · have cT := fun u => decodeR E [] 2 u bE' lE' (by rw [hdE]; rfl) (by rw [hdE]; rfl)
      simp only [HsT.out] at cT
      clear hdE bE' lE'
      go_wp2_with (first
        | (go_at_call 8; rw [hw6] at *; refine (cT _).mono ?_; rintro e w7 ⟨a7, n7, c7, rfl, hr7, hN7, hb7⟩; clear hN7 cT)
        | fail)
      have e7 := e6.trans (hb7.mono e6.size)
      clear hr7 hb7 hr6 hcv6 hr8g hk hki hLz hLp hc5 hf5 hcv5 e6
      skip
      go_wp2_with (first
        | (go_at_call 7; refine (text_any S 1000 _ hS (by omega)).mono ?_; rw [HsX.out]; rintro e w8 ⟨rfl, rfl⟩)
        | (go_at_call 8; refine (cX _).mono ?_; rintro e w9 ⟨a9, n9, c9, rfl, hr9, hN9, hb9⟩; have hl9 := hr9.len; clear hN9)
        | (go_at_call 10; refine (eX _ _ _ _ hr9 (by omega)).mono ?_; rintro e w10 ⟨rfl, hb10⟩)
        | (go_at_call 13; refine (wakes_any _).mono ?_; rintro e w11 ⟨rfl, hb11⟩))
      go_ret
      have q9 := e7.trans (hb9.mono e7.size)
      have q10 := q9.trans (hb10.mono q9.size)
      exact ⟨rfl, q10.trans (hb11.mono q10.size)⟩
    · have hEd := dec_some hdE
      have cT := fun u => decodeR E d 0 u bE' lE' (by rw [hdE]; rfl) (by rw [hdE]; rfl)
      simp only [HsT.out] at cT
      obtain ⟨sD, HsD⟩ : ∃ s, Hid (strOfNums d = s) := ⟨_, rfl⟩
      by_cases hsame : E = enc P
      · have hTE : sT = sE := by rw [← HsT.out, hsame, HsE.out]
        subst hTE
        clear hdE bE' lE' hsame hEd
        go_wp2_with (first
          | (go_at_call 8; rw [hw6] at *; refine (cT _).mono ?_; rintro e w7 ⟨a7, n7, c7, rfl, hr7, hN7, hb7⟩; have hcv7 := (hr6.carry (Nat.le_refl _) hb7).string; rw [HsT.out] at hcv7; clear hN7 cT)
          | fail)
        have e7 := e6.trans (hb7.mono e6.size)
        clear hr7 hb7 hr6 hcv6 hr8g hk hki hLz hLp hc5 hf5 hcv5 e6 hcv7
        skip
        go_wp2_with (first
          | (go_at_call 7; refine (text_any S 1000 _ hS (by omega)).mono ?_; rw [HsX.out]; rintro e w8 ⟨rfl, rfl⟩)
          | (go_at_call 8; refine (cX _).mono ?_; rintro e w9 ⟨a9, n9, c9, rfl, hr9, hN9, hb9⟩; have hl9 := hr9.len; clear hN9)
          | (go_at_call 10; refine (eX _ _ _ _ hr9 (by omega)).mono ?_; rintro e w10 ⟨rfl, hb10⟩)
          | (go_at_call 13; refine (wakes_any _).mono ?_; rintro e w11 ⟨rfl, hb11⟩))
        go_ret
        have q9 := e7.trans (hb9.mono e7.size)
        have q10 := q9.trans (hb10.mono q9.size)
        exact ⟨rfl, q10.trans (hb11.mono q10.size)⟩
      · have hne : (sT.toList == sE.toList) = false := by rw [← HsT.out, ← HsE.out]; exact str_ne bE' (enc_bd bP.out) hsame
        have hdc : (sD.toList == tP.toList) = false := by
          rw [← HsD.out, ← HtP.out]
          exact str_ne hEd.2 bP.out (fun e => hsame (by rw [← hEd.1, e]))
        clear hdE bE' lE' hsame hEd
        go_wp2_with (first
          | (go_at_call 8; rw [hw6] at *; refine (cT _).mono ?_; rintro e w7 ⟨a7, n7, c7, rfl, hr7, hN7, hb7⟩; have hcv7 := (hr6.carry (Nat.le_refl _) hb7).string; rw [HsT.out] at hcv7; have hcd7 := hr7.string; rw [HsD.out] at hcd7; have hcp7 := (hr8g.carry (Nat.le_refl _) hb7).string; rw [HtP.out] at hcp7; clear hN7 cT)
          | fail)
        have e7 := e6.trans (hb7.mono e6.size)
        clear hr7 hb7 hr6 hcv6 hr8g hk hki hLz hLp hc5 hf5 hcv5 e6 hcv7 hcd7 hcp7 hne hdc
        skip
        go_wp2_with (first
          | (go_at_call 7; refine (text_any S 1000 _ hS (by omega)).mono ?_; rw [HsX.out]; rintro e w8 ⟨rfl, rfl⟩)
          | (go_at_call 8; refine (cX _).mono ?_; rintro e w9 ⟨a9, n9, c9, rfl, hr9, hN9, hb9⟩; have hl9 := hr9.len; clear hN9)
          | (go_at_call 10; refine (eX _ _ _ _ hr9 (by omega)).mono ?_; rintro e w10 ⟨rfl, hb10⟩)
          | (go_at_call 13; refine (wakes_any _).mono ?_; rintro e w11 ⟨rfl, hb11⟩))
        go_ret
        have q9 := e7.trans (hb9.mono e7.size)
        have q10 := q9.trans (hb10.mono q9.size)
        exact ⟨rfl, q10.trans (hb11.mono q10.size)⟩
theorem walk (a : Option Addr) (n c : Nat) (xs : List Int) (S : ByteArray) (I J : Int) (w : World) (hR : Rd w a n c xs) (hS : S.size ≤ 9223372036854775807) (_hI0 : -9223372036854775808 ≤ I) (_hI1 : I ≤ 9223372036854775807) (hJ0 : 0 ≤ J) (hJ1 : J ≤ 255) :
    Calls Try.prog 4 #[.agg #[.slice a n c, .string S, .int .i64 I, .int .u8 J]] w fun e w' => e = .returned (.bool true) ∧ Below w.heap.size w w' := by
  rcases h : dec ((nums S).take 1000) with _ | D
  · exact walkN a n c xs S I J w hR hS hJ0 hJ1 h
  · exact walkS a n c xs S I J w hR hS hJ0 hJ1 D h
end base64Back
end Go.Proofs.Ytmmjeikmifhekaa
