/- digits; Challenge, the document's too. -/
import Derived.Test.YtmilcknboaefkaaGreatDoorScK
import Derived.Test.YtmilcknboaefkaaGreatDoorScI
import Derived.Test.YtmilcknboaefkaaGreatDoorScS
import Derived.Test.YtmilcknboaefkaaGreatDoorB6R
import Derived.Test.YtmilcknboaefkaaGreatDoorShelf
import Derived.Test.YtmilcknboaefkaaGreatDoorScG
namespace Go.Proofs.YtmilcknboaefkaaGreatDoor
open Go.RowKit Go.Shelf

theorem dig_str (n : Nat) : strOfNums [(48 + (n % 10 : Nat) : Int)] = ⟨#[UInt8.ofNat (48 + n % 10)]⟩ := by
  show (⟨#[UInt8.ofNat (48 + ((n % 10 : Nat) : Int)).toNat]⟩ : ByteArray) = _
  congr 3
theorem decDigits_more {n : Nat} (h : ¬ n < 10) : Lib.decDigits n = Lib.decDigits (n / 10) ++ [UInt8.ofNat (48 + n % 10)] := by
  rw [Lib.decDigits, dif_neg h]
theorem exec_addS {o : Oper} {ρ : Operand → Value} {x y : Operand} {t u : TypeId} {a b : ByteArray} {w : World} (ho : o.op = .binOp .add t x y u) (hx : ρ x = .string a) (hy : ρ y = .string b) (hs : a.size + b.size ≤ maxLen) : (execOp ρ o).run Tryz.prog w = .ok (.value (.string (a ++ b))) w := by
  simp only [execOp, ho, hx, hy, Sem.run_bind, Sem.run_pure]
  go_simp
  exact hs

theorem dlen : ∀ (k n : Nat), n ≤ k → (Lib.decDigits n).length ≤ k + 1
  | 0, n, h => by rw [Lib.decDigits_one (by omega)]; simp
  | k + 1, n, h => by
    by_cases h' : n < 10
    · rw [Lib.decDigits_one h']; simp
    · rw [decDigits_more h', List.length_append]
      have := dlen k (n / 10) (by omega)
      simp
      omega
theorem digits_one (n : Nat) (h : n < 10) (w : World) : Calls Tryz.prog 35 #[.int .i64 (n : Int)] w fun e w' => e = .returned (.string ⟨(Lib.decDigits n).toArray⟩) ∧ Below w.heap.size w w' := by
  have hc : (n : Int) < 10 := by omega
  have hD : Lib.decDigits n = [UInt8.ofNat (48 + n)] := Lib.decDigits_one h
  have hq := (rd_row (w := w.alloc (.cells #[.int .u8 (48 + (n : Int))] 5)) (g := w.heap.size) (t := 5) (xs := [(48 + (n : Int))]) (heap_alloc_new _ _) (fun x hx => by simp at hx; omega) (by unfold maxLen; simp)).string
  have hz : strOfNums [48 + (n : Int)] = ⟨#[UInt8.ofNat (48 + n)]⟩ := by
    have := dig_str n
    rw [Nat.mod_eq_of_lt h] at this
    exact this
  rw [hz] at hq
  rw [hD]
  clear hz hD
  have hq' : (convert 22 9 (.slice (some ⟨w.heap.size, 0, none⟩) 1 1)).run Tryz.prog (w.alloc (.cells #[.int .u8 (48 + (n : Int))] 5)) = .ok (.string ⟨#[UInt8.ofNat (48 + n)]⟩) (w.alloc (.cells #[.int .u8 (48 + (n : Int))] 5)) := hq
  clear hq
  obtain ⟨X, HX⟩ : ∃ X, Hid ((⟨#[UInt8.ofNat (48 + n)]⟩ : ByteArray) = X) := ⟨_, rfl⟩
  rw [show (⟨[UInt8.ofNat (48 + n)].toArray⟩ : ByteArray) = X from HX.out]
  rw [HX.out] at hq'
  go_enter Tryz.func35, Tryz.ntmps35
  go_wp2
  go_ret
  exact ⟨rfl, (Below.refl _ _).alloc (Nat.le_refl _) _⟩

set_option maxHeartbeats 800000 in
theorem digits_more (n : Nat) (h : ¬ n < 10) (hn : n ≤ 100000) (hI : ∀ w, Calls Tryz.prog 35 #[.int .i64 ((n / 10 : Nat) : Int)] w fun e w' => e = .returned (.string ⟨(Lib.decDigits (n / 10)).toArray⟩) ∧ Below w.heap.size w w') (w : World) : Calls Tryz.prog 35 #[.int .i64 (n : Int)] w fun e w' => e = .returned (.string ⟨(Lib.decDigits n).toArray⟩) ∧ Below w.heap.size w w' := by
  have hc : ¬ (n : Int) < 10 := by omega
  rw [decDigits_more h]
  have hDl : (Lib.decDigits (n / 10)).length ≤ 100001 := by
    exact Nat.le_trans (dlen _ _ (Nat.le_refl _)) (by omega)
  obtain ⟨D, HD⟩ := hidE (Lib.decDigits (n / 10))
  rw [HD.out] at hI hDl ⊢
  go_enter Tryz.func35, Tryz.ntmps35
  go_wp2_with fail
  refine wp_region_facts [0, 1, 2, 3, 4, 5, 6, 7, 8, 9] (Gl [(fEq (.int .i64 (n : Int))), (fEq (.int .i64 ((n / 10 : Nat) : Int))), (fEq (.string ⟨D.toArray⟩)), (fEq (.int .i64 (n : Int))), (fEq (.int .i64 ((n % 10 : Nat) : Int))), (fEq (.int .i64 (48 + (n % 10 : Nat) : Int))), (fEq (.int .u8 (48 + (n % 10 : Nat) : Int))), (fRd [(48 + (n % 10 : Nat) : Int)] 1), (fEq (.string ⟨#[UInt8.ofNat (48 + n % 10)]⟩)), (fEq (.string ⟨(D ++ [UInt8.ofNat (48 + n % 10)]).toArray⟩))]) 11 1 (by kernel_rfl) (by kernel_rfl) rfl (by kernel_rfl) (lasts_list ?olst) ?oob ?_
  case olst =>
    intro g hg
    simp only [List.mem_cons, List.not_mem_nil, or_false] at hg
    rcases hg with rfl | rfl | rfl | rfl | rfl | rfl | rfl | rfl | rfl | rfl
    · exact lasts_eq _
    · exact lasts_eq _
    · exact lasts_eq _
    · exact lasts_eq _
    · exact lasts_eq _
    · exact lasts_eq _
    · exact lasts_eq _
    · exact lasts_rd _ _
    · exact lasts_eq _
    · exact lasts_eq _
  case oob =>
    refine (allIn_cons ?o0 (allIn_cons ?o1 (allIn_cons ?o2 (allIn_cons ?o3 (allIn_cons ?o4 (allIn_cons ?o5 (allIn_cons ?o6 (allIn_cons ?o7 (allIn_cons ?o8 (allIn_cons ?o9 allIn_nil))))))))))
    case o0 =>
      refine ob_val 0 rfl rfl (by simp) (fun tm u h => ⟨?ow0, ?_⟩)
      case ow0 => exact wanted_none rfl
      have s0 : tm.getD 0 undef = .int .i64 (n : Int) := h.same 0 (of_decide_eq_true (by kernel_rfl))
      exact ⟨.int .i64 (n : Int), u, by first | (go_simp; done) | (go_simp; rfl), rfl, Below.refl _ _⟩
    case o1 =>
      refine ob_val 1 rfl rfl (by simp) (fun tm u h => ⟨?ow1, ?_⟩)
      case ow1 => exact wanted_none rfl
      have f0 : tm.getD 10 undef = .int .i64 (n : Int) := h.dep 0 _ _ (by simp) rfl rfl ⟨_, rfl, by kernel_rfl⟩
      refine ⟨.int .i64 ((n / 10 : Nat) : Int), u, ?_, rfl, Below.refl _ _⟩
      first | (go_simp; done) | (go_simp; rfl) | (go_simp; exact wi64' (by omega) (by omega) (by omega))
    case o2 =>
      refine ob_call 2 rfl rfl (by simp) (fun tm u h => ⟨?ow2, ?_⟩)
      case ow2 => exact wanted_none rfl
      have f1 : tm.getD 11 undef = .int .i64 ((n / 10 : Nat) : Int) := h.dep 1 _ _ (by simp) rfl rfl ⟨_, rfl, by kernel_rfl⟩
      refine ⟨35, #[.int .i64 ((n / 10 : Nat) : Int)], by first | (go_simp; done) | (go_simp; rfl), ?_⟩
      refine (hI u).mono ?_
      rintro e u2 ⟨rfl, hb2⟩
      exact ⟨_, rfl, rfl, hb2⟩
    case o3 =>
      refine ob_val 3 rfl rfl (by simp) (fun tm u h => ⟨?ow3, ?_⟩)
      case ow3 => exact wanted_none rfl
      have s0 : tm.getD 0 undef = .int .i64 (n : Int) := h.same 0 (of_decide_eq_true (by kernel_rfl))
      exact ⟨.int .i64 (n : Int), u, by first | (go_simp; done) | (go_simp; rfl), rfl, Below.refl _ _⟩
    case o4 =>
      refine ob_val 4 rfl rfl (by simp) (fun tm u h => ⟨?ow4, ?_⟩)
      case ow4 => exact wanted_none rfl
      have f3 : tm.getD 13 undef = .int .i64 (n : Int) := h.dep 3 _ _ (by simp) rfl rfl ⟨_, rfl, by kernel_rfl⟩
      refine ⟨.int .i64 ((n % 10 : Nat) : Int), u, ?_, rfl, Below.refl _ _⟩
      first | (go_simp; done) | (go_simp; rfl) | (go_simp; exact wi64' (by omega) (by omega) (by omega))
    case o5 =>
      refine ob_val 5 rfl rfl (by simp) (fun tm u h => ⟨?ow5, ?_⟩)
      case ow5 => exact wanted_none rfl
      have f4 : tm.getD 14 undef = .int .i64 ((n % 10 : Nat) : Int) := h.dep 4 _ _ (by simp) rfl rfl ⟨_, rfl, by kernel_rfl⟩
      refine ⟨.int .i64 (48 + (n % 10 : Nat) : Int), u, ?_, rfl, Below.refl _ _⟩
      first | (go_simp; done) | (go_simp; rfl) | (go_simp; exact wi64' (by omega) (by omega) (by omega))
    case o6 =>
      refine ob_val 6 rfl rfl (by simp) (fun tm u h => ⟨?ow6, ?_⟩)
      case ow6 => exact wanted_none rfl
      have f5 : tm.getD 15 undef = .int .i64 (48 + (n % 10 : Nat) : Int) := h.dep 5 _ _ (by simp) rfl rfl ⟨_, rfl, by kernel_rfl⟩
      refine ⟨.int .u8 (48 + (n % 10 : Nat) : Int), u, ?_, rfl, Below.refl _ _⟩
      first | (go_simp; done) | (go_simp; rfl) | (go_simp; rw [IntKind.wrap_u8]; omega)
    case o7 =>
      refine ob_val 7 rfl rfl (by simp) (fun tm u h => ⟨?ow7, ?_⟩)
      case ow7 => exact wanted_none rfl
      have f6 : tm.getD 16 undef = .int .u8 (48 + (n % 10 : Nat) : Int) := h.dep 6 _ _ (by simp) rfl rfl ⟨_, rfl, by kernel_rfl⟩
      refine ⟨.slice (some ⟨u.heap.size, 0, none⟩) 1 1, u.alloc (.cells #[.int .u8 (48 + (n % 10 : Nat) : Int)] 5), ?_, ⟨_, _, _, rfl, Nat.le_refl _, rd_row (t := 5) (xs := [(48 + (n % 10 : Nat) : Int)]) (heap_alloc_new _ _) (fun x hx => by simp at hx; omega) (by unfold maxLen; simp)⟩, (Below.refl _ _).alloc (Nat.le_refl _) _⟩
      have qf6 := f6
      rw [Array.getD_eq_getD_getElem?] at qf6
      go_simp
    case o8 =>
      refine ob_val 8 rfl rfl (by simp) (fun tm u h => ⟨?ow8, ?_⟩)
      case ow8 => exact wanted_none rfl
      obtain ⟨a7, n7, c7, f7, hn7, hr7⟩ : fRd [(48 + (n % 10 : Nat) : Int)] 1 (tm.getD 17 undef) u := h.dep 7 _ _ (by simp) rfl rfl ⟨_, rfl, by kernel_rfl⟩
      have hq := hr7.string
      have hz : strOfNums [(48 + (n % 10 : Nat) : Int)] = ⟨#[UInt8.ofNat (48 + n % 10)]⟩ := dig_str n
      rw [hz] at hq
      exact ⟨_, u, exec_conv rfl f7 hq, rfl, Below.refl _ _⟩
    case o9 =>
      refine ob_val 9 rfl rfl (by simp) (fun tm u h => ⟨?ow9, ?_⟩)
      case ow9 => exact wanted_none rfl
      have f2 : tm.getD 12 undef = .string ⟨D.toArray⟩ := h.dep 2 _ _ (by simp) rfl rfl ⟨_, rfl, by kernel_rfl⟩
      have f8 : tm.getD 18 undef = .string ⟨#[UInt8.ofNat (48 + n % 10)]⟩ := h.dep 8 _ _ (by simp) rfl rfl ⟨_, rfl, by kernel_rfl⟩
      have hA := app_tx D [UInt8.ofNat (48 + n % 10)]
      refine ⟨_, u, ?_, rfl, Below.refl _ _⟩
      rw [← hA]
      exact exec_addS rfl f2 f8 (by rw [size_tx, show (⟨#[UInt8.ofNat (48 + n % 10)]⟩ : ByteArray).size = 1 from rfl]; unfold maxLen; omega)
  intro af wf hAO
  have k19 : af.tmps.getD 19 undef = .string ⟨(D ++ [UInt8.ofNat (48 + n % 10)]).toArray⟩ := hAO.got 9 _ _ rfl (by simp) rfl rfl
  have hs := hAO.s
  obtain ⟨tm, dfx⟩ := af
  obtain rfl : dfx = [] := hAO.df
  have hsz : tm.size = 20 := hAO.sz
  clear hAO
  have eF : tm = #[tm.getD 0 undef, tm.getD 1 undef, tm.getD 2 undef, tm.getD 3 undef, tm.getD 4 undef, tm.getD 5 undef, tm.getD 6 undef, tm.getD 7 undef, tm.getD 8 undef, tm.getD 9 undef, tm.getD 10 undef, tm.getD 11 undef, tm.getD 12 undef, tm.getD 13 undef, tm.getD 14 undef, tm.getD 15 undef, tm.getD 16 undef, tm.getD 17 undef, tm.getD 18 undef, tm.getD 19 undef] := eta_arr tm 20 hsz
  try dsimp only at eF
  have kF19 : tm.getD 19 undef = .string ⟨(D ++ [UInt8.ofNat (48 + n % 10)]).toArray⟩ := k19
  rw [kF19] at eF
  clear kF19
  generalize tm.getD 0 undef = vF0 at eF
  generalize tm.getD 1 undef = vF1 at eF
  generalize tm.getD 2 undef = vF2 at eF
  generalize tm.getD 3 undef = vF3 at eF
  generalize tm.getD 4 undef = vF4 at eF
  generalize tm.getD 5 undef = vF5 at eF
  generalize tm.getD 6 undef = vF6 at eF
  generalize tm.getD 7 undef = vF7 at eF
  generalize tm.getD 8 undef = vF8 at eF
  generalize tm.getD 9 undef = vF9 at eF
  generalize tm.getD 10 undef = vF10 at eF
  generalize tm.getD 11 undef = vF11 at eF
  generalize tm.getD 12 undef = vF12 at eF
  generalize tm.getD 13 undef = vF13 at eF
  generalize tm.getD 14 undef = vF14 at eF
  generalize tm.getD 15 undef = vF15 at eF
  generalize tm.getD 16 undef = vF16 at eF
  generalize tm.getD 17 undef = vF17 at eF
  generalize tm.getD 18 undef = vF18 at eF
  subst eF
  refine lx_one 10 (by kernel_rfl) (stepT_val (w' := wf) (.string ⟨(D ++ [UInt8.ofNat (48 + n % 10)]).toArray⟩) rfl rfl rfl (by first | (go_simp; done) | (go_simp; rfl)) (fun _ => trivial) ?_)
  refine lx_nil (by kernel_rfl) ?_
  simp only [List.setIfInBounds_toArray, List.set_cons_zero, List.set_cons_succ]
  go_wp2
  go_ret
  exact ⟨rfl, (Below.refl _ _).drew.trans hs⟩
theorem refDigits_any : ∀ (k n : Nat), n ≤ k → n ≤ 100000 → ∀ w : World, Calls Tryz.prog 35 #[.int .i64 (n : Int)] w fun e w' => e = .returned (.string ⟨(Lib.decDigits n).toArray⟩) ∧ Below w.heap.size w w'
  | 0, n, hk, _, w => digits_one n (by omega) w
  | k + 1, n, hk, hn, w => by
    by_cases h : n < 10
    · exact digits_one n h w
    · exact digits_more n h hn (fun w => refDigits_any k (n / 10) (by omega) (by omega) w) w
end Go.Proofs.YtmilcknboaefkaaGreatDoor

/- Challenge, the document's too. -/
namespace Go.Proofs.YtmilcknboaefkaaGreatDoor
open Go.RowKit Go.Shelf

def chalT (F M : Tx) (ss : List Int) (N : Nat) : Tx := [114, 61] ++ F ++ M ++ [44, 115, 61] ++ tx (enc ss) ++ [44, 105, 61] ++ Lib.decDigits N
theorem exec_addT {o : Oper} {ρ : Operand → Value} {x y : Operand} {t u : TypeId} {a b : Tx} {w : World} (ho : o.op = .binOp .add t x y u) (hx : ρ x = .string ⟨a.toArray⟩) (hy : ρ y = .string ⟨b.toArray⟩) (hs : a.length + b.length ≤ 9223372036854775807) : (execOp ρ o).run Tryz.prog w = .ok (.value (.string ⟨(a ++ b).toArray⟩)) w := by
  rw [← app_tx]
  exact exec_addS ho hx hy (by rw [size_tx, size_tx]; exact hs)
/-- The table of powers of ten. -/
def Pw (w : World) : Prop := Lib.TabIs Tryz.prog w "internal/strconv.uint64pow10" .u64 Lib.pow10Tab
theorem Pw.below {w w' : World} (h : Pw w) (hb : Below w.heap.size w w') : Pw w' := by
  unfold Pw Lib.TabIs World.var? at h ⊢
  rw [show Tryz.prog.globalNamed "internal/strconv.uint64pow10" = some 4 from by kernel_rfl] at h ⊢
  simp only [Option.bind_some] at h ⊢
  have hlt : 4 < w.heap.size := by
    rcases Nat.lt_or_ge 4 w.heap.size with h' | h'
    · exact h'
    · rw [Array.getElem?_eq_none h'] at h; cases h
  rw [hb.block 4 hlt]
  exact h
theorem itoa_any (N : Nat) (hN : N ≤ 100000) (w : World) (hP : Pw w) : Calls Tryz.prog 32 #[.int .i64 (N : Int)] w fun e w' => e = .returned (.string ⟨(Lib.decDigits N).toArray⟩) ∧ Below w.heap.size w w' := by
  have h := Any.strconv_Itoa Tryz.laysM171 (N : Int) (by omega) (by omega) w hP
  rw [Lib.itoa_nonneg] at h
  refine h.mono ?_
  rintro e w' ⟨rfl, k, os, rfl⟩
  refine ⟨rfl, rfl, rfl, rfl, ?_, fun j hj => ?_⟩
  · show w.heap.size ≤ (w.heap ++ os).size
    rw [Array.size_append]; omega
  · show (w.heap ++ os)[j]? = w.heap[j]?
    exact Array.getElem?_append_left hj
theorem isNonceB (M : Tx) (w : World) (hM : M.length ≤ 1000000) : Calls Tryz.prog 31 #[.string ⟨M.toArray⟩, .int .i64 128] w fun e w' => e = .returned (.bool (nonceB 128 M)) ∧ Below w.heap.size w w' := isNonce_any M 128 w hM (by omega)
theorem refNonceB (M : Tx) (w : World) (hM : M.length ≤ 1000000) : Calls Tryz.prog 33 #[.string ⟨M.toArray⟩, .int .i64 128] w fun e w' => e = .returned (.bool (nonceB 128 M)) ∧ Below w.heap.size w w' := (refNonce_any M 128 w hM (by omega)).mono fun _ _ h => ⟨h.1, h.2 ▸ Below.refl _ _⟩

set_option maxHeartbeats 1600000 in
set_option maxRecDepth 100000 in
theorem challenge_ok (H U F B M : Tx) (a : Option Addr) (n c : Nat) (ss : List Int) (N : Nat) (w : World) (hF' : F.length ≤ 10000) (hM' : M.length ≤ 10000) (hR : Rd w a n c ss) (hn : n ≤ 10000) (hno : nonceB 128 M = true) (hN1 : 1 ≤ N) (hN2 : N ≤ 4096) (hP : Pw w) :
    Calls Tryz.prog 11 #[.agg (fcells ⟨H, U, F, B⟩), .string ⟨M.toArray⟩, .slice a n c, .int .i64 (N : Int)] w fun e w' => e = .returned (.tuple #[.string ⟨(chalT F M ss N).toArray⟩, .int .i64 0]) ∧ Below w.heap.size w w' := by
  have hc1 : ¬ (N : Int) < 1 := by omega
  have hc2 : ¬ (4096 : Int) < (N : Int) := by omega
  have hE : (tx (enc ss)).length ≤ 100000 := by have := enc_len ss; have hl := hR.len; unfold tx; rw [List.length_map]; omega
  have hD : (Lib.decDigits N).length ≤ 100001 := Nat.le_trans (dlen _ _ (Nat.le_refl _)) (by omega)
  have hb0 : Below w.heap.size w (w.alloc (.cells #[.string ⟨H.toArray⟩, .string ⟨U.toArray⟩, .string ⟨F.toArray⟩, .string ⟨B.toArray⟩] 35)) := (Below.refl _ _).alloc (Nat.le_refl _) _
  have hF0 : FAt (w.alloc (.cells #[.string ⟨H.toArray⟩, .string ⟨U.toArray⟩, .string ⟨F.toArray⟩, .string ⟨B.toArray⟩] 35)) w.heap.size (.string ⟨H.toArray⟩) (.string ⟨U.toArray⟩) (.string ⟨F.toArray⟩) (.string ⟨B.toArray⟩) := heap_alloc_new _ _
  have cN := fun w => isNonceB M w (by omega)
  rw [hno] at cN
  unfold fcells
  dsimp only
  go_enter Tryz.func11, Tryz.ntmps11
  go_wp2_with (go_at_call 31; refine (cN _).mono ?_; rintro e w1 ⟨rfl, hb1⟩)
  have hF : FAt w1.drew w.heap.size (.string ⟨H.toArray⟩) (.string ⟨U.toArray⟩) (.string ⟨F.toArray⟩) (.string ⟨B.toArray⟩) := hF0.below hb1.drew
  have hB : Hid (Below w.heap.size w w1.drew) := (hb0.trans (hb1.mono hb0.size)).drew
  have hRW := hR.carry (Nat.le_refl _) hB.out
  have hPW : Pw w1.drew := hP.below hB.out
  clear hF0 hb0 hb1 cN
  refine wp_region_facts [0, 1, 2, 3, 4, 5, 6, 7, 8, 9, 10, 11, 12] (Gl [(fEq (.pointer (some ⟨w.heap.size, 2, none⟩))), (fEq (.string ⟨(F).toArray⟩)), (fEq (.string ⟨([114, 61] ++ F).toArray⟩)), (fEq (.string ⟨(M).toArray⟩)), (fEq (.string ⟨(([114, 61] ++ F) ++ M).toArray⟩)), (fEq (.string ⟨((([114, 61] ++ F) ++ M) ++ [44, 115, 61]).toArray⟩)), (fEq (.slice a n c)), (fEq (.string ⟨(tx (enc ss)).toArray⟩)), (fEq (.string ⟨(((([114, 61] ++ F) ++ M) ++ [44, 115, 61]) ++ tx (enc ss)).toArray⟩)), (fEq (.string ⟨((((([114, 61] ++ F) ++ M) ++ [44, 115, 61]) ++ tx (enc ss)) ++ [44, 105, 61]).toArray⟩)), (fEq (.int .i64 (N : Int))), (fEq (.string ⟨(Lib.decDigits N).toArray⟩)), (fEq (.string ⟨(((((([114, 61] ++ F) ++ M) ++ [44, 115, 61]) ++ tx (enc ss)) ++ [44, 105, 61]) ++ Lib.decDigits N).toArray⟩))]) 15 2 (by kernel_rfl) (by kernel_rfl) rfl (by kernel_rfl) (lasts_list ?olst) ?oob ?_
  case olst =>
    intro g hg
    simp only [List.mem_cons, List.not_mem_nil, or_false] at hg
    rcases hg with rfl | rfl | rfl | rfl | rfl | rfl | rfl | rfl | rfl | rfl | rfl | rfl | rfl
    · exact lasts_eq _
    · exact lasts_eq _
    · exact lasts_eq _
    · exact lasts_eq _
    · exact lasts_eq _
    · exact lasts_eq _
    · exact lasts_eq _
    · exact lasts_eq _
    · exact lasts_eq _
    · exact lasts_eq _
    · exact lasts_eq _
    · exact lasts_eq _
    · exact lasts_eq _
  case oob =>
    refine (allIn_cons ?o0 (allIn_cons ?o1 (allIn_cons ?o2 (allIn_cons ?o3 (allIn_cons ?o4 (allIn_cons ?o5 (allIn_cons ?o6 (allIn_cons ?o7 (allIn_cons ?o8 (allIn_cons ?o9 (allIn_cons ?o10 (allIn_cons ?o11 (allIn_cons ?o12 allIn_nil)))))))))))))
    case o0 =>
      refine ob_val 0 rfl rfl (by simp) (fun tm u h => ⟨?ow0, ?_⟩)
      case ow0 => exact wanted_none rfl
      have s4 : tm.getD 4 undef = .pointer (some ⟨w.heap.size, 0, none⟩) := h.same 4 (of_decide_eq_true (by kernel_rfl))
      refine ⟨.pointer (some ⟨w.heap.size, 2, none⟩), u, ?_, rfl, Below.refl _ _⟩
      first | (go_simp; done) | (go_simp; rfl)
    case o1 =>
      refine ob_val 1 rfl rfl (by simp) (fun tm u h => ⟨?ow1, ?_⟩)
      case ow1 => exact wanted_none rfl
      have f0 : tm.getD 19 undef = .pointer (some ⟨w.heap.size, 2, none⟩) := h.dep 0 _ _ (by simp) rfl rfl ⟨_, rfl, by kernel_rfl⟩
      have hc := (hF.below h.s).c2
      refine ⟨_, u, ?_, rfl, Below.refl _ _⟩
      first | (go_simp; done) | (go_simp; rfl)
    case o2 =>
      refine ob_val 2 rfl rfl (by simp) (fun tm u h => ⟨?ow2, ?_⟩)
      case ow2 => exact wanted_none rfl
      have f1 : tm.getD 20 undef = .string ⟨(F).toArray⟩ := h.dep 1 _ _ (by simp) rfl rfl ⟨_, rfl, by kernel_rfl⟩
      exact ⟨_, u, exec_addT rfl rfl f1 (by simp only [List.length_cons, List.length_nil]; omega), rfl, Below.refl _ _⟩
    case o3 =>
      refine ob_val 3 rfl rfl (by simp) (fun tm u h => ⟨?ow3, ?_⟩)
      case ow3 => exact wanted_none rfl
      have s1 : tm.getD 1 undef = .string ⟨(M).toArray⟩ := h.same 1 (of_decide_eq_true (by kernel_rfl))
      exact ⟨.string ⟨(M).toArray⟩, u, by first | (go_simp; done) | (go_simp; rfl), rfl, Below.refl _ _⟩
    case o4 =>
      refine ob_val 4 rfl rfl (by simp) (fun tm u h => ⟨?ow4, ?_⟩)
      case ow4 => exact wanted_none rfl
      have f2 : tm.getD 21 undef = .string ⟨([114, 61] ++ F).toArray⟩ := h.dep 2 _ _ (by simp) rfl rfl ⟨_, rfl, by kernel_rfl⟩
      have f3 : tm.getD 22 undef = .string ⟨(M).toArray⟩ := h.dep 3 _ _ (by simp) rfl rfl ⟨_, rfl, by kernel_rfl⟩
      exact ⟨_, u, exec_addT rfl f2 f3 (by simp only [List.length_append, List.length_cons, List.length_nil]; omega), rfl, Below.refl _ _⟩
    case o5 =>
      refine ob_val 5 rfl rfl (by simp) (fun tm u h => ⟨?ow5, ?_⟩)
      case ow5 => exact wanted_none rfl
      have f4 : tm.getD 23 undef = .string ⟨(([114, 61] ++ F) ++ M).toArray⟩ := h.dep 4 _ _ (by simp) rfl rfl ⟨_, rfl, by kernel_rfl⟩
      exact ⟨_, u, exec_addT rfl f4 rfl (by simp only [List.length_append, List.length_cons, List.length_nil]; omega), rfl, Below.refl _ _⟩
    case o6 =>
      refine ob_val 6 rfl rfl (by simp) (fun tm u h => ⟨?ow6, ?_⟩)
      case ow6 => exact wanted_none rfl
      have s2 : tm.getD 2 undef = .slice a n c := h.same 2 (of_decide_eq_true (by kernel_rfl))
      exact ⟨.slice a n c, u, by first | (go_simp; done) | (go_simp; rfl), rfl, Below.refl _ _⟩
    case o7 =>
      refine ob_call 7 rfl rfl (by simp) (fun tm u h => ⟨?ow7, ?_⟩)
      case ow7 => exact wanted_none rfl
      have f6 : tm.getD 25 undef = .slice a n c := h.dep 6 _ _ (by simp) rfl rfl ⟨_, rfl, by kernel_rfl⟩
      refine ⟨23, #[.slice a n c], by first | (go_simp; done) | (go_simp; rfl), ?_⟩
      refine (encode_any a n c ss u (hRW.carry (Nat.le_refl _) h.s) (by omega)).mono ?_
      rintro e u2 ⟨rfl, hb2⟩
      exact ⟨_, rfl, rfl, hb2⟩
    case o8 =>
      refine ob_val 8 rfl rfl (by simp) (fun tm u h => ⟨?ow8, ?_⟩)
      case ow8 => exact wanted_none rfl
      have f5 : tm.getD 24 undef = .string ⟨((([114, 61] ++ F) ++ M) ++ [44, 115, 61]).toArray⟩ := h.dep 5 _ _ (by simp) rfl rfl ⟨_, rfl, by kernel_rfl⟩
      have f7 : tm.getD 26 undef = .string ⟨(tx (enc ss)).toArray⟩ := h.dep 7 _ _ (by simp) rfl rfl ⟨_, rfl, by kernel_rfl⟩
      exact ⟨_, u, exec_addT rfl f5 f7 (by simp only [List.length_append, List.length_cons, List.length_nil]; omega), rfl, Below.refl _ _⟩
    case o9 =>
      refine ob_val 9 rfl rfl (by simp) (fun tm u h => ⟨?ow9, ?_⟩)
      case ow9 => exact wanted_none rfl
      have f8 : tm.getD 27 undef = .string ⟨(((([114, 61] ++ F) ++ M) ++ [44, 115, 61]) ++ tx (enc ss)).toArray⟩ := h.dep 8 _ _ (by simp) rfl rfl ⟨_, rfl, by kernel_rfl⟩
      exact ⟨_, u, exec_addT rfl f8 rfl (by simp only [List.length_append, List.length_cons, List.length_nil]; omega), rfl, Below.refl _ _⟩
    case o10 =>
      refine ob_val 10 rfl rfl (by simp) (fun tm u h => ⟨?ow10, ?_⟩)
      case ow10 => exact wanted_none rfl
      have s3 : tm.getD 3 undef = .int .i64 (N : Int) := h.same 3 (of_decide_eq_true (by kernel_rfl))
      exact ⟨.int .i64 (N : Int), u, by first | (go_simp; done) | (go_simp; rfl), rfl, Below.refl _ _⟩
    case o11 =>
      refine ob_call 11 rfl rfl (by simp) (fun tm u h => ⟨?ow11, ?_⟩)
      case ow11 => exact wanted_none rfl
      have f10 : tm.getD 29 undef = .int .i64 (N : Int) := h.dep 10 _ _ (by simp) rfl rfl ⟨_, rfl, by kernel_rfl⟩
      refine ⟨32, #[.int .i64 (N : Int)], by first | (go_simp; done) | (go_simp; rfl), ?_⟩
      refine (itoa_any N (by omega) u (hPW.below h.s)).mono ?_
      rintro e u2 ⟨rfl, hb2⟩
      exact ⟨_, rfl, rfl, hb2⟩
    case o12 =>
      refine ob_val 12 rfl rfl (by simp) (fun tm u h => ⟨?ow12, ?_⟩)
      case ow12 => exact wanted_none rfl
      have f9 : tm.getD 28 undef = .string ⟨((((([114, 61] ++ F) ++ M) ++ [44, 115, 61]) ++ tx (enc ss)) ++ [44, 105, 61]).toArray⟩ := h.dep 9 _ _ (by simp) rfl rfl ⟨_, rfl, by kernel_rfl⟩
      have f11 : tm.getD 30 undef = .string ⟨(Lib.decDigits N).toArray⟩ := h.dep 11 _ _ (by simp) rfl rfl ⟨_, rfl, by kernel_rfl⟩
      exact ⟨_, u, exec_addT rfl f9 f11 (by simp only [List.length_append, List.length_cons, List.length_nil]; omega), rfl, Below.refl _ _⟩
  intro af wf hAO
  have k31 : af.tmps.getD 31 undef = .string ⟨(chalT F M ss N).toArray⟩ := hAO.got 12 _ _ rfl (by simp) rfl rfl
  have hs := hAO.s
  obtain ⟨tm, dfx⟩ := af
  obtain rfl : dfx = [] := hAO.df
  have hsz : tm.size = 32 := hAO.sz
  clear hAO
  have eF : tm = #[tm.getD 0 undef, tm.getD 1 undef, tm.getD 2 undef, tm.getD 3 undef, tm.getD 4 undef, tm.getD 5 undef, tm.getD 6 undef, tm.getD 7 undef, tm.getD 8 undef, tm.getD 9 undef, tm.getD 10 undef, tm.getD 11 undef, tm.getD 12 undef, tm.getD 13 undef, tm.getD 14 undef, tm.getD 15 undef, tm.getD 16 undef, tm.getD 17 undef, tm.getD 18 undef, tm.getD 19 undef, tm.getD 20 undef, tm.getD 21 undef, tm.getD 22 undef, tm.getD 23 undef, tm.getD 24 undef, tm.getD 25 undef, tm.getD 26 undef, tm.getD 27 undef, tm.getD 28 undef, tm.getD 29 undef, tm.getD 30 undef, tm.getD 31 undef] := eta_arr tm 32 hsz
  try dsimp only at eF
  have kF31 : tm.getD 31 undef = .string ⟨(chalT F M ss N).toArray⟩ := k31
  rw [kF31] at eF
  clear kF31
  generalize tm.getD 0 undef = vF0 at eF
  generalize tm.getD 1 undef = vF1 at eF
  generalize tm.getD 2 undef = vF2 at eF
  generalize tm.getD 3 undef = vF3 at eF
  generalize tm.getD 4 undef = vF4 at eF
  generalize tm.getD 5 undef = vF5 at eF
  generalize tm.getD 6 undef = vF6 at eF
  generalize tm.getD 7 undef = vF7 at eF
  generalize tm.getD 8 undef = vF8 at eF
  generalize tm.getD 9 undef = vF9 at eF
  generalize tm.getD 10 undef = vF10 at eF
  generalize tm.getD 11 undef = vF11 at eF
  generalize tm.getD 12 undef = vF12 at eF
  generalize tm.getD 13 undef = vF13 at eF
  generalize tm.getD 14 undef = vF14 at eF
  generalize tm.getD 15 undef = vF15 at eF
  generalize tm.getD 16 undef = vF16 at eF
  generalize tm.getD 17 undef = vF17 at eF
  generalize tm.getD 18 undef = vF18 at eF
  generalize tm.getD 19 undef = vF19 at eF
  generalize tm.getD 20 undef = vF20 at eF
  generalize tm.getD 21 undef = vF21 at eF
  generalize tm.getD 22 undef = vF22 at eF
  generalize tm.getD 23 undef = vF23 at eF
  generalize tm.getD 24 undef = vF24 at eF
  generalize tm.getD 25 undef = vF25 at eF
  generalize tm.getD 26 undef = vF26 at eF
  generalize tm.getD 27 undef = vF27 at eF
  generalize tm.getD 28 undef = vF28 at eF
  generalize tm.getD 29 undef = vF29 at eF
  generalize tm.getD 30 undef = vF30 at eF
  subst eF
  refine lx_one 13 (by kernel_rfl) (stepT_val (w' := wf) (.string ⟨(chalT F M ss N).toArray⟩) rfl rfl rfl (by first | (go_simp; done) | (go_simp; rfl)) (fun _ => trivial) ?_)
  refine lx_one 14 (by kernel_rfl) (stepT_val (w' := wf) (.int .i64 0) rfl rfl rfl (by first | (go_simp; done) | (go_simp; rfl)) (fun _ => trivial) ?_)
  refine lx_nil (by kernel_rfl) ?_
  simp only [List.setIfInBounds_toArray, List.set_cons_zero, List.set_cons_succ]
  go_wp2
  go_ret2
  exact ⟨rfl, hB.out.trans (hs.mono hB.out.size)⟩

theorem challenge_bad (H U F B M : Tx) (a : Option Addr) (n c : Nat) (N : Int) (w : World) (hM' : M.length ≤ 10000) (h : nonceB 128 M = false ∨ N < 1 ∨ 4096 < N) :
    Calls Tryz.prog 11 #[.agg (fcells ⟨H, U, F, B⟩), .string ⟨M.toArray⟩, .slice a n c, .int .i64 N] w fun e w' => e = .returned (.tuple #[.string ⟨#[]⟩, .int .i64 (if nonceB 128 M = false then 2 else 3)]) ∧ Below w.heap.size w w' := by
  have hb0 : Below w.heap.size w (w.alloc (.cells #[.string ⟨H.toArray⟩, .string ⟨U.toArray⟩, .string ⟨F.toArray⟩, .string ⟨B.toArray⟩] 35)) := (Below.refl _ _).alloc (Nat.le_refl _) _
  have cN := fun w => isNonceB M w (by omega)
  unfold fcells
  dsimp only
  by_cases h0 : nonceB 128 M = false
  · rw [if_pos h0]
    rw [h0] at cN
    go_enter Tryz.func11, Tryz.ntmps11
    go_wp2_with (go_at_call 31; refine (cN _).mono ?_; rintro e w1 ⟨rfl, hb1⟩)
    go_ret2
    exact ⟨rfl, hb0.trans (hb1.mono hb0.size)⟩
  · rw [if_neg h0]
    have h1 : nonceB 128 M = true := by simpa using h0
    have h2 : N < 1 ∨ 4096 < N := h.resolve_left h0
    rw [h1] at cN
    clear h h0 h1
    by_cases h3 : N < 1
    · clear h2
      go_enter Tryz.func11, Tryz.ntmps11
      go_wp2_with (go_at_call 31; refine (cN _).mono ?_; rintro e w1 ⟨rfl, hb1⟩)
      go_ret2
      exact ⟨rfl, hb0.trans (hb1.mono hb0.size)⟩
    · have h4 : 4096 < N := h2.resolve_left h3
      clear h2
      go_enter Tryz.func11, Tryz.ntmps11
      go_wp2_with (go_at_call 31; refine (cN _).mono ?_; rintro e w1 ⟨rfl, hb1⟩)
      go_ret2
      exact ⟨rfl, hb0.trans (hb1.mono hb0.size)⟩

set_option maxHeartbeats 1600000 in
set_option maxRecDepth 100000 in
theorem refChallenge_ok (H U F B M : Tx) (a : Option Addr) (n c : Nat) (ss : List Int) (N : Nat) (w : World) (hF' : F.length ≤ 10000) (hM' : M.length ≤ 10000) (hR : Rd w a n c ss) (hn : n ≤ 10000) (hno : nonceB 128 M = true) (hN1 : 1 ≤ N) (hN2 : N ≤ 4096) :
    Calls Tryz.prog 13 #[.agg (fcells ⟨H, U, F, B⟩), .string ⟨M.toArray⟩, .slice a n c, .int .i64 (N : Int)] w fun e w' => e = .returned (.tuple #[.string ⟨(chalT F M ss N).toArray⟩, .int .i64 0]) ∧ Below w.heap.size w w' := by
  have hc1 : ¬ (N : Int) < 1 := by omega
  have hc2 : ¬ (4096 : Int) < (N : Int) := by omega
  have hE : (tx (enc ss)).length ≤ 100000 := by have := enc_len ss; have hl := hR.len; unfold tx; rw [List.length_map]; omega
  have hD : (Lib.decDigits N).length ≤ 100001 := Nat.le_trans (dlen _ _ (Nat.le_refl _)) (by omega)
  have hb0 : Below w.heap.size w (w.alloc (.cells #[.string ⟨H.toArray⟩, .string ⟨U.toArray⟩, .string ⟨F.toArray⟩, .string ⟨B.toArray⟩] 35)) := (Below.refl _ _).alloc (Nat.le_refl _) _
  have hF0 : FAt (w.alloc (.cells #[.string ⟨H.toArray⟩, .string ⟨U.toArray⟩, .string ⟨F.toArray⟩, .string ⟨B.toArray⟩] 35)) w.heap.size (.string ⟨H.toArray⟩) (.string ⟨U.toArray⟩) (.string ⟨F.toArray⟩) (.string ⟨B.toArray⟩) := heap_alloc_new _ _
  have cN := fun w => refNonceB M w (by omega)
  rw [hno] at cN
  unfold fcells
  dsimp only
  go_enter Tryz.func13, Tryz.ntmps13
  go_wp2_with (go_at_call 33; refine (cN _).mono ?_; rintro e w1 ⟨rfl, hb1⟩)
  have hF : FAt w1.drew w.heap.size (.string ⟨H.toArray⟩) (.string ⟨U.toArray⟩) (.string ⟨F.toArray⟩) (.string ⟨B.toArray⟩) := hF0.below hb1.drew
  have hB : Hid (Below w.heap.size w w1.drew) := (hb0.trans (hb1.mono hb0.size)).drew
  have hRW := hR.carry (Nat.le_refl _) hB.out
  clear hF0 hb0 hb1 cN
  refine wp_region_facts [0, 1, 2, 3, 4, 5, 6, 7, 8, 9, 10, 11, 12] (Gl [(fEq (.pointer (some ⟨w.heap.size, 2, none⟩))), (fEq (.string ⟨(F).toArray⟩)), (fEq (.string ⟨([114, 61] ++ F).toArray⟩)), (fEq (.string ⟨(M).toArray⟩)), (fEq (.string ⟨(([114, 61] ++ F) ++ M).toArray⟩)), (fEq (.string ⟨((([114, 61] ++ F) ++ M) ++ [44, 115, 61]).toArray⟩)), (fEq (.slice a n c)), (fEq (.string ⟨(tx (enc ss)).toArray⟩)), (fEq (.string ⟨(((([114, 61] ++ F) ++ M) ++ [44, 115, 61]) ++ tx (enc ss)).toArray⟩)), (fEq (.string ⟨((((([114, 61] ++ F) ++ M) ++ [44, 115, 61]) ++ tx (enc ss)) ++ [44, 105, 61]).toArray⟩)), (fEq (.int .i64 (N : Int))), (fEq (.string ⟨(Lib.decDigits N).toArray⟩)), (fEq (.string ⟨(((((([114, 61] ++ F) ++ M) ++ [44, 115, 61]) ++ tx (enc ss)) ++ [44, 105, 61]) ++ Lib.decDigits N).toArray⟩))]) 15 2 (by kernel_rfl) (by kernel_rfl) rfl (by kernel_rfl) (lasts_list ?olst) ?oob ?_
  case olst =>
    intro g hg
    simp only [List.mem_cons, List.not_mem_nil, or_false] at hg
    rcases hg with rfl | rfl | rfl | rfl | rfl | rfl | rfl | rfl | rfl | rfl | rfl | rfl | rfl
    · exact lasts_eq _
    · exact lasts_eq _
    · exact lasts_eq _
    · exact lasts_eq _
    · exact lasts_eq _
    · exact lasts_eq _
    · exact lasts_eq _
    · exact lasts_eq _
    · exact lasts_eq _
    · exact lasts_eq _
    · exact lasts_eq _
    · exact lasts_eq _
    · exact lasts_eq _
  case oob =>
    refine (allIn_cons ?o0 (allIn_cons ?o1 (allIn_cons ?o2 (allIn_cons ?o3 (allIn_cons ?o4 (allIn_cons ?o5 (allIn_cons ?o6 (allIn_cons ?o7 (allIn_cons ?o8 (allIn_cons ?o9 (allIn_cons ?o10 (allIn_cons ?o11 (allIn_cons ?o12 allIn_nil)))))))))))))
    case o0 =>
      refine ob_val 0 rfl rfl (by simp) (fun tm u h => ⟨?ow0, ?_⟩)
      case ow0 => exact wanted_none rfl
      have s4 : tm.getD 4 undef = .pointer (some ⟨w.heap.size, 0, none⟩) := h.same 4 (of_decide_eq_true (by kernel_rfl))
      refine ⟨.pointer (some ⟨w.heap.size, 2, none⟩), u, ?_, rfl, Below.refl _ _⟩
      first | (go_simp; done) | (go_simp; rfl)
    case o1 =>
      refine ob_val 1 rfl rfl (by simp) (fun tm u h => ⟨?ow1, ?_⟩)
      case ow1 => exact wanted_none rfl
      have f0 : tm.getD 19 undef = .pointer (some ⟨w.heap.size, 2, none⟩) := h.dep 0 _ _ (by simp) rfl rfl ⟨_, rfl, by kernel_rfl⟩
      have hc := (hF.below h.s).c2
      refine ⟨_, u, ?_, rfl, Below.refl _ _⟩
      first | (go_simp; done) | (go_simp; rfl)
    case o2 =>
      refine ob_val 2 rfl rfl (by simp) (fun tm u h => ⟨?ow2, ?_⟩)
      case ow2 => exact wanted_none rfl
      have f1 : tm.getD 20 undef = .string ⟨(F).toArray⟩ := h.dep 1 _ _ (by simp) rfl rfl ⟨_, rfl, by kernel_rfl⟩
      exact ⟨_, u, exec_addT rfl rfl f1 (by simp only [List.length_cons, List.length_nil]; omega), rfl, Below.refl _ _⟩
    case o3 =>
      refine ob_val 3 rfl rfl (by simp) (fun tm u h => ⟨?ow3, ?_⟩)
      case ow3 => exact wanted_none rfl
      have s1 : tm.getD 1 undef = .string ⟨(M).toArray⟩ := h.same 1 (of_decide_eq_true (by kernel_rfl))
      exact ⟨.string ⟨(M).toArray⟩, u, by first | (go_simp; done) | (go_simp; rfl), rfl, Below.refl _ _⟩
    case o4 =>
      refine ob_val 4 rfl rfl (by simp) (fun tm u h => ⟨?ow4, ?_⟩)
      case ow4 => exact wanted_none rfl
      have f2 : tm.getD 21 undef = .string ⟨([114, 61] ++ F).toArray⟩ := h.dep 2 _ _ (by simp) rfl rfl ⟨_, rfl, by kernel_rfl⟩
      have f3 : tm.getD 22 undef = .string ⟨(M).toArray⟩ := h.dep 3 _ _ (by simp) rfl rfl ⟨_, rfl, by kernel_rfl⟩
      exact ⟨_, u, exec_addT rfl f2 f3 (by simp only [List.length_append, List.length_cons, List.length_nil]; omega), rfl, Below.refl _ _⟩
    case o5 =>
      refine ob_val 5 rfl rfl (by simp) (fun tm u h => ⟨?ow5, ?_⟩)
      case ow5 => exact wanted_none rfl
      have f4 : tm.getD 23 undef = .string ⟨(([114, 61] ++ F) ++ M).toArray⟩ := h.dep 4 _ _ (by simp) rfl rfl ⟨_, rfl, by kernel_rfl⟩
      exact ⟨_, u, exec_addT rfl f4 rfl (by simp only [List.length_append, List.length_cons, List.length_nil]; omega), rfl, Below.refl _ _⟩
    case o6 =>
      refine ob_val 6 rfl rfl (by simp) (fun tm u h => ⟨?ow6, ?_⟩)
      case ow6 => exact wanted_none rfl
      have s2 : tm.getD 2 undef = .slice a n c := h.same 2 (of_decide_eq_true (by kernel_rfl))
      exact ⟨.slice a n c, u, by first | (go_simp; done) | (go_simp; rfl), rfl, Below.refl _ _⟩
    case o7 =>
      refine ob_call 7 rfl rfl (by simp) (fun tm u h => ⟨?ow7, ?_⟩)
      case ow7 => exact wanted_none rfl
      have f6 : tm.getD 25 undef = .slice a n c := h.dep 6 _ _ (by simp) rfl rfl ⟨_, rfl, by kernel_rfl⟩
      refine ⟨34, #[.slice a n c], by first | (go_simp; done) | (go_simp; rfl), ?_⟩
      refine (refEncode_any a n c ss u (hRW.carry (Nat.le_refl _) h.s) (by omega)).mono ?_
      rintro e u2 ⟨rfl, hb2⟩
      exact ⟨_, rfl, rfl, hb2⟩
    case o8 =>
      refine ob_val 8 rfl rfl (by simp) (fun tm u h => ⟨?ow8, ?_⟩)
      case ow8 => exact wanted_none rfl
      have f5 : tm.getD 24 undef = .string ⟨((([114, 61] ++ F) ++ M) ++ [44, 115, 61]).toArray⟩ := h.dep 5 _ _ (by simp) rfl rfl ⟨_, rfl, by kernel_rfl⟩
      have f7 : tm.getD 26 undef = .string ⟨(tx (enc ss)).toArray⟩ := h.dep 7 _ _ (by simp) rfl rfl ⟨_, rfl, by kernel_rfl⟩
      exact ⟨_, u, exec_addT rfl f5 f7 (by simp only [List.length_append, List.length_cons, List.length_nil]; omega), rfl, Below.refl _ _⟩
    case o9 =>
      refine ob_val 9 rfl rfl (by simp) (fun tm u h => ⟨?ow9, ?_⟩)
      case ow9 => exact wanted_none rfl
      have f8 : tm.getD 27 undef = .string ⟨(((([114, 61] ++ F) ++ M) ++ [44, 115, 61]) ++ tx (enc ss)).toArray⟩ := h.dep 8 _ _ (by simp) rfl rfl ⟨_, rfl, by kernel_rfl⟩
      exact ⟨_, u, exec_addT rfl f8 rfl (by simp only [List.length_append, List.length_cons, List.length_nil]; omega), rfl, Below.refl _ _⟩
    case o10 =>
      refine ob_val 10 rfl rfl (by simp) (fun tm u h => ⟨?ow10, ?_⟩)
      case ow10 => exact wanted_none rfl
      have s3 : tm.getD 3 undef = .int .i64 (N : Int) := h.same 3 (of_decide_eq_true (by kernel_rfl))
      exact ⟨.int .i64 (N : Int), u, by first | (go_simp; done) | (go_simp; rfl), rfl, Below.refl _ _⟩
    case o11 =>
      refine ob_call 11 rfl rfl (by simp) (fun tm u h => ⟨?ow11, ?_⟩)
      case ow11 => exact wanted_none rfl
      have f10 : tm.getD 29 undef = .int .i64 (N : Int) := h.dep 10 _ _ (by simp) rfl rfl ⟨_, rfl, by kernel_rfl⟩
      refine ⟨35, #[.int .i64 (N : Int)], by first | (go_simp; done) | (go_simp; rfl), ?_⟩
      refine (refDigits_any N N (Nat.le_refl _) (by omega) u).mono ?_
      rintro e u2 ⟨rfl, hb2⟩
      exact ⟨_, rfl, rfl, hb2⟩
    case o12 =>
      refine ob_val 12 rfl rfl (by simp) (fun tm u h => ⟨?ow12, ?_⟩)
      case ow12 => exact wanted_none rfl
      have f9 : tm.getD 28 undef = .string ⟨((((([114, 61] ++ F) ++ M) ++ [44, 115, 61]) ++ tx (enc ss)) ++ [44, 105, 61]).toArray⟩ := h.dep 9 _ _ (by simp) rfl rfl ⟨_, rfl, by kernel_rfl⟩
      have f11 : tm.getD 30 undef = .string ⟨(Lib.decDigits N).toArray⟩ := h.dep 11 _ _ (by simp) rfl rfl ⟨_, rfl, by kernel_rfl⟩
      exact ⟨_, u, exec_addT rfl f9 f11 (by simp only [List.length_append, List.length_cons, List.length_nil]; omega), rfl, Below.refl _ _⟩
  intro af wf hAO
  have k31 : af.tmps.getD 31 undef = .string ⟨(chalT F M ss N).toArray⟩ := hAO.got 12 _ _ rfl (by simp) rfl rfl
  have hs := hAO.s
  obtain ⟨tm, dfx⟩ := af
  obtain rfl : dfx = [] := hAO.df
  have hsz : tm.size = 32 := hAO.sz
  clear hAO
  have eF : tm = #[tm.getD 0 undef, tm.getD 1 undef, tm.getD 2 undef, tm.getD 3 undef, tm.getD 4 undef, tm.getD 5 undef, tm.getD 6 undef, tm.getD 7 undef, tm.getD 8 undef, tm.getD 9 undef, tm.getD 10 undef, tm.getD 11 undef, tm.getD 12 undef, tm.getD 13 undef, tm.getD 14 undef, tm.getD 15 undef, tm.getD 16 undef, tm.getD 17 undef, tm.getD 18 undef, tm.getD 19 undef, tm.getD 20 undef, tm.getD 21 undef, tm.getD 22 undef, tm.getD 23 undef, tm.getD 24 undef, tm.getD 25 undef, tm.getD 26 undef, tm.getD 27 undef, tm.getD 28 undef, tm.getD 29 undef, tm.getD 30 undef, tm.getD 31 undef] := eta_arr tm 32 hsz
  try dsimp only at eF
  have kF31 : tm.getD 31 undef = .string ⟨(chalT F M ss N).toArray⟩ := k31
  rw [kF31] at eF
  clear kF31
  generalize tm.getD 0 undef = vF0 at eF
  generalize tm.getD 1 undef = vF1 at eF
  generalize tm.getD 2 undef = vF2 at eF
  generalize tm.getD 3 undef = vF3 at eF
  generalize tm.getD 4 undef = vF4 at eF
  generalize tm.getD 5 undef = vF5 at eF
  generalize tm.getD 6 undef = vF6 at eF
  generalize tm.getD 7 undef = vF7 at eF
  generalize tm.getD 8 undef = vF8 at eF
  generalize tm.getD 9 undef = vF9 at eF
  generalize tm.getD 10 undef = vF10 at eF
  generalize tm.getD 11 undef = vF11 at eF
  generalize tm.getD 12 undef = vF12 at eF
  generalize tm.getD 13 undef = vF13 at eF
  generalize tm.getD 14 undef = vF14 at eF
  generalize tm.getD 15 undef = vF15 at eF
  generalize tm.getD 16 undef = vF16 at eF
  generalize tm.getD 17 undef = vF17 at eF
  generalize tm.getD 18 undef = vF18 at eF
  generalize tm.getD 19 undef = vF19 at eF
  generalize tm.getD 20 undef = vF20 at eF
  generalize tm.getD 21 undef = vF21 at eF
  generalize tm.getD 22 undef = vF22 at eF
  generalize tm.getD 23 undef = vF23 at eF
  generalize tm.getD 24 undef = vF24 at eF
  generalize tm.getD 25 undef = vF25 at eF
  generalize tm.getD 26 undef = vF26 at eF
  generalize tm.getD 27 undef = vF27 at eF
  generalize tm.getD 28 undef = vF28 at eF
  generalize tm.getD 29 undef = vF29 at eF
  generalize tm.getD 30 undef = vF30 at eF
  subst eF
  refine lx_one 13 (by kernel_rfl) (stepT_val (w' := wf) (.string ⟨(chalT F M ss N).toArray⟩) rfl rfl rfl (by first | (go_simp; done) | (go_simp; rfl)) (fun _ => trivial) ?_)
  refine lx_one 14 (by kernel_rfl) (stepT_val (w' := wf) (.int .i64 0) rfl rfl rfl (by first | (go_simp; done) | (go_simp; rfl)) (fun _ => trivial) ?_)
  refine lx_nil (by kernel_rfl) ?_
  simp only [List.setIfInBounds_toArray, List.set_cons_zero, List.set_cons_succ]
  go_wp2
  go_ret2
  exact ⟨rfl, hB.out.trans (hs.mono hB.out.size)⟩

theorem refChallenge_bad (H U F B M : Tx) (a : Option Addr) (n c : Nat) (N : Int) (w : World) (hM' : M.length ≤ 10000) (h : nonceB 128 M = false ∨ N < 1 ∨ 4096 < N) :
    Calls Tryz.prog 13 #[.agg (fcells ⟨H, U, F, B⟩), .string ⟨M.toArray⟩, .slice a n c, .int .i64 N] w fun e w' => e = .returned (.tuple #[.string ⟨#[]⟩, .int .i64 (if nonceB 128 M = false then 2 else 3)]) ∧ Below w.heap.size w w' := by
  have hb0 : Below w.heap.size w (w.alloc (.cells #[.string ⟨H.toArray⟩, .string ⟨U.toArray⟩, .string ⟨F.toArray⟩, .string ⟨B.toArray⟩] 35)) := (Below.refl _ _).alloc (Nat.le_refl _) _
  have cN := fun w => refNonceB M w (by omega)
  unfold fcells
  dsimp only
  by_cases h0 : nonceB 128 M = false
  · rw [if_pos h0]
    rw [h0] at cN
    go_enter Tryz.func13, Tryz.ntmps13
    go_wp2_with (go_at_call 33; refine (cN _).mono ?_; rintro e w1 ⟨rfl, hb1⟩)
    go_ret2
    exact ⟨rfl, hb0.trans (hb1.mono hb0.size)⟩
  · rw [if_neg h0]
    have h1 : nonceB 128 M = true := by simpa using h0
    have h2 : N < 1 ∨ 4096 < N := h.resolve_left h0
    rw [h1] at cN
    clear h h0 h1
    by_cases h3 : N < 1
    · clear h2
      go_enter Tryz.func13, Tryz.ntmps13
      go_wp2_with (go_at_call 33; refine (cN _).mono ?_; rintro e w1 ⟨rfl, hb1⟩)
      go_ret2
      exact ⟨rfl, hb0.trans (hb1.mono hb0.size)⟩
    · have h4 : 4096 < N := h2.resolve_left h3
      clear h2
      go_enter Tryz.func13, Tryz.ntmps13
      go_wp2_with (go_at_call 33; refine (cN _).mono ?_; rintro e w1 ⟨rfl, hb1⟩)
      go_ret2
      exact ⟨rfl, hb0.trans (hb1.mono hb0.size)⟩

theorem challenge_both (H U F B M : Tx) (ss : List Int) (N : Int) (hF' : F.length ≤ 10000) (hM' : M.length ≤ 10000) : ∃ (T : ByteArray) (E : Int),
    (∀ (a : Option Addr) (n c : Nat) (w : World), Rd w a n c ss → n ≤ 10000 → Pw w → Calls Tryz.prog 11 #[.agg (fcells ⟨H, U, F, B⟩), .string ⟨M.toArray⟩, .slice a n c, .int .i64 N] w fun e w' => e = .returned (.tuple #[.string T, .int .i64 E]) ∧ Below w.heap.size w w') ∧
    (∀ (a : Option Addr) (n c : Nat) (w : World), Rd w a n c ss → n ≤ 10000 → Calls Tryz.prog 13 #[.agg (fcells ⟨H, U, F, B⟩), .string ⟨M.toArray⟩, .slice a n c, .int .i64 N] w fun e w' => e = .returned (.tuple #[.string T, .int .i64 E]) ∧ Below w.heap.size w w') := by
  by_cases h : nonceB 128 M = false ∨ N < 1 ∨ 4096 < N
  · exact ⟨⟨#[]⟩, _, fun a n c w _ _ _ => challenge_bad H U F B M a n c N w hM' h, fun a n c w _ _ => refChallenge_bad H U F B M a n c N w hM' h⟩
  · have h0 : nonceB 128 M = true := by
      rcases hb : nonceB 128 M with _ | _
      · exact absurd (Or.inl hb) h
      · rfl
    have hM : N = ((N.toNat : Nat) : Int) := by omega
    refine ⟨⟨(chalT F M ss N.toNat).toArray⟩, 0, fun a n c w h1 h2 h3 => ?_, fun a n c w h1 h2 => ?_⟩
    · rw [hM]; exact challenge_ok H U F B M a n c ss N.toNat w hF' hM' h1 h2 h0 (by omega) (by omega) h3
    · rw [hM]; exact refChallenge_ok H U F B M a n c ss N.toNat w hF' hM' h1 h2 h0 (by omega) (by omega)
end Go.Proofs.YtmilcknboaefkaaGreatDoor
