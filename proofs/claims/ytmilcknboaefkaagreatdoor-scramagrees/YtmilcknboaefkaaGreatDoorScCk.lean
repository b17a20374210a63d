/- scram.signature, asksFor; the document's full. -/
import Derived.Test.YtmilcknboaefkaaGreatDoorScD
namespace Go.Proofs.YtmilcknboaefkaaGreatDoor
open Go.RowKit Go.Shelf

def authT (B C R : Tx) : Tx := B ++ [44] ++ C ++ [44] ++ R
/-- '[]byte(s)' of a long text. -/
theorem bytes_runB (s : ByteArray) (w : World) (hs : s.size ≤ 100000000) : ∃ c w', (convert 9 22 (.string s)).run Tryz.prog w = .ok (.slice (some ⟨w.heap.size, 0, none⟩) s.size c) w' ∧ Rd w' (some ⟨w.heap.size, 0, none⟩) s.size c (nums s) ∧ Below w.heap.size w w' := by
  refine ⟨_, _, run_bytes_of_string w 9 22 5 s Tryz.underlying9 Tryz.underlying22 Tryz.underlying5, ?_, ?_⟩
  · refine ⟨nums_len s, grownCap_ge _ _ _ _, grownCap_le_maxLen _ _ _ _ (by unfold maxLen; omega), (fun h => by cases h), nums_bd s, fun ad had j hj => ?_⟩
    cases had
    have hj' : j < s.data.size := hj
    rw [add_flat, Nat.zero_add, show w.heap.size = w.drew.heap.size from rfl, World.cell?_alloc_mark, bytesRow_at s _ j hj']
    simp [nums, List.getD, Array.getElem?_eq_getElem hj']
  · exact ((Below.refl _ _).drew).alloc (Nat.le_refl _) _
theorem bytes_big (P : Tx) (w : World) (hs : P.length ≤ 100000000) : ∃ c w', (convert 9 22 (.string ⟨P.toArray⟩)).run Tryz.prog w = .ok (.slice (some ⟨w.heap.size, 0, none⟩) P.length c) w' ∧ Rd w' (some ⟨w.heap.size, 0, none⟩) P.length c (il P) ∧ Below w.heap.size w w' := by
  have h := bytes_runB ⟨P.toArray⟩ w (by rw [size_tx]; exact hs)
  rw [size_tx] at h
  exact h

set_option maxHeartbeats 1600000 in
set_option maxRecDepth 100000 in
theorem signature_any (K : List Int) (H U F B C R : Tx) (w : World) (hKl : K.length = 32) (hKb : Bd K) (hB : B.length ≤ 2000000) (hC : C.length ≤ 2000000) (hR : R.length ≤ 2000000) (hK : Kt w) :
    Calls Tryz.prog 38 #[.agg (ic .u8 K).toArray, .agg (fcells ⟨H, U, F, B⟩), .string ⟨C.toArray⟩, .string ⟨R.toArray⟩] w fun e w' => e = .returned (.agg (ic .u8 (hmac K (il (authT B C R)))).toArray) ∧ Below w.heap.size w w' := by
  have hi23 := (size_of Tryz.u23).2
  obtain ⟨Z, HZ⟩ := hidE (hmac K (il (authT B C R)))
  have hZl : Z.length = 32 := by rw [← HZ.out]; exact hmac_len _ _
  rw [HZ.out]
  have hnF : ∀ u : World, FAt (u.alloc (.cells #[.string ⟨H.toArray⟩, .string ⟨U.toArray⟩, .string ⟨F.toArray⟩, .string ⟨B.toArray⟩] 35)) u.heap.size (.string ⟨H.toArray⟩) (.string ⟨U.toArray⟩) (.string ⟨F.toArray⟩) (.string ⟨B.toArray⟩) := fun u => heap_alloc_new u _
  have HnF : Hid _ := hnF
  clear hnF
  unfold fcells
  dsimp only
  have tk1 : True := trivial
  go_enter Tryz.func38, Tryz.ntmps38
  go_wp2_with (first
    | (refine wp_box_ar rfl 27 (.tmp 0) rfl .u8 K rfl ?_; intro g4 w1 A4 hg4 hb1; have hF0 := HnF.out w1; have l4 := A4.lt)
    | (refine wp_alloc_ar rfl 27 rfl .u8 (List.replicate 32 0) 32 Tryz.z23 ?_; intro g8 w3 A8 hg8 hb3))
  have b2 : Below w1.heap.size w1 (w1.alloc (.cells #[.string ⟨H.toArray⟩, .string ⟨U.toArray⟩, .string ⟨F.toArray⟩, .string ⟨B.toArray⟩] 35)) := (Below.refl _ _).alloc (Nat.le_refl _) _
  have b3 := b2.trans (hb3.mono b2.size)
  have hF1 := hF0.below hb3
  have A4' := A4.below b3 l4
  have e3 := hb1.trans (b3.mono hb1.size)
  have hg8' : w.heap.size ≤ g8 := by have := hb1.size; have := b2.size; omega
  obtain ⟨g5, Hg5⟩ : ∃ g5, Hid (w1.heap.size = g5) := ⟨_, rfl⟩
  have hF : FAt w3.drew w1.heap.size (.string ⟨H.toArray⟩) (.string ⟨U.toArray⟩) (.string ⟨F.toArray⟩) (.string ⟨B.toArray⟩) := hF1
  rw [Hg5.out] at hF ⊢
  have hS : Rd w3.drew (some ⟨g4, 0, none⟩) 32 32 K := by have := rd_row A4' hKb (by rw [hKl]; unfold maxLen; omega); rw [hKl] at this; exact rd_drewN this 1
  have hKX : Kt w3.drew := (hK.below (Nat.le_refl _) e3).drewN 1
  have A8X : Ar w3.drew g8 27 .u8 (List.replicate 32 0) := A8
  have HE : Hid (Below w.heap.size w w3.drew) := e3.drew
  clear b2 b3 hF1 A4' e3 hF0 hb1 hb3 A8 A4 hK hg4 hg8 l4
  refine wp_region_facts [0, 1, 2, 3, 4, 5, 6, 7, 8, 9, 10] (Gl [(fEq (.slice (some ⟨g4, 0, none⟩) 32 32)), (fEq (.pointer (some ⟨g5, 3, none⟩))), (fEq (.string ⟨(B).toArray⟩)), (fEq (.string ⟨(B ++ [44]).toArray⟩)), (fEq (.string ⟨(C).toArray⟩)), (fEq (.string ⟨((B ++ [44]) ++ C).toArray⟩)), (fEq (.string ⟨(((B ++ [44]) ++ C) ++ [44]).toArray⟩)), (fEq (.string ⟨(R).toArray⟩)), (fEq (.string ⟨((((B ++ [44]) ++ C) ++ [44]) ++ R).toArray⟩)), (fRd (il (authT B C R)) 100000000), (fEq (.agg (ic .u8 Z).toArray))]) 12 1 (by kernel_rfl) (by kernel_rfl) rfl (by kernel_rfl) (lasts_list ?olst) ?oob ?_
  case olst =>
    intro g hg
    simp only [List.mem_cons, List.not_mem_nil, or_false] at hg
    rcases hg with rfl | rfl | rfl | rfl | rfl | rfl | rfl | rfl | rfl | rfl | rfl
    · exact lasts_eq _
    · exact lasts_eq _
    · exact lasts_eq _
    · exact lasts_eq _
    · exact lasts_eq _
    · exact lasts_eq _
    · exact lasts_eq _
    · exact lasts_eq _
    · exact lasts_eq _
    · exact lasts_rd _ _
    · exact lasts_eq _
  case oob =>
    refine (allIn_cons ?o0 (allIn_cons ?o1 (allIn_cons ?o2 (allIn_cons ?o3 (allIn_cons ?o4 (allIn_cons ?o5 (allIn_cons ?o6 (allIn_cons ?o7 (allIn_cons ?o8 (allIn_cons ?o9 (allIn_cons ?o10 allIn_nil)))))))))))
    case o0 =>
      refine ob_val 0 rfl rfl (by simp) (fun tm u h => ⟨?ow0, ?_⟩)
      case ow0 => exact wanted_none rfl
      have s4 : tm.getD 4 undef = .pointer (some ⟨g4, 0, none⟩) := h.same 4 (of_decide_eq_true (by kernel_rfl))
      refine ⟨.slice (some ⟨g4, 0, none⟩) 32 32, u, ?_, rfl, Below.refl _ _⟩
      first | (go_simp; done) | (go_simp; rfl)
    case o1 =>
      refine ob_val 1 rfl rfl (by simp) (fun tm u h => ⟨?ow1, ?_⟩)
      case ow1 => exact wanted_none rfl
      have s5 : tm.getD 5 undef = .pointer (some ⟨g5, 0, none⟩) := h.same 5 (of_decide_eq_true (by kernel_rfl))
      refine ⟨.pointer (some ⟨g5, 3, none⟩), u, ?_, rfl, Below.refl _ _⟩
      first | (go_simp; done) | (go_simp; rfl)
    case o2 =>
      refine ob_val 2 rfl rfl (by simp) (fun tm u h => ⟨?ow2, ?_⟩)
      case ow2 => exact wanted_none rfl
      have f1 : tm.getD 10 undef = .pointer (some ⟨g5, 3, none⟩) := h.dep 1 _ _ (by simp) rfl rfl ⟨_, rfl, by kernel_rfl⟩
      have hc := (hF.below h.s).c3
      refine ⟨_, u, ?_, rfl, Below.refl _ _⟩
      first | (go_simp; done) | (go_simp; rfl)
    case o3 =>
      refine ob_val 3 rfl rfl (by simp) (fun tm u h => ⟨?ow3, ?_⟩)
      case ow3 => exact wanted_none rfl
      have f2 : tm.getD 11 undef = .string ⟨(B).toArray⟩ := h.dep 2 _ _ (by simp) rfl rfl ⟨_, rfl, by kernel_rfl⟩
      exact ⟨_, u, exec_addT rfl f2 rfl (by simp only [List.length_cons, List.length_nil]; omega), rfl, Below.refl _ _⟩
    case o4 =>
      refine ob_val 4 rfl rfl (by simp) (fun tm u h => ⟨?ow4, ?_⟩)
      case ow4 => exact wanted_none rfl
      have s2 : tm.getD 2 undef = .string ⟨(C).toArray⟩ := h.same 2 (of_decide_eq_true (by kernel_rfl))
      exact ⟨.string ⟨(C).toArray⟩, u, by first | (go_simp; done) | (go_simp; rfl), rfl, Below.refl _ _⟩
    case o5 =>
      refine ob_val 5 rfl rfl (by simp) (fun tm u h => ⟨?ow5, ?_⟩)
      case ow5 => exact wanted_none rfl
      have f3 : tm.getD 12 undef = .string ⟨(B ++ [44]).toArray⟩ := h.dep 3 _ _ (by simp) rfl rfl ⟨_, rfl, by kernel_rfl⟩
      have f4 : tm.getD 13 undef = .string ⟨(C).toArray⟩ := h.dep 4 _ _ (by simp) rfl rfl ⟨_, rfl, by kernel_rfl⟩
      exact ⟨_, u, exec_addT rfl f3 f4 (by simp only [List.length_append, List.length_cons, List.length_nil]; omega), rfl, Below.refl _ _⟩
    case o6 =>
      refine ob_val 6 rfl rfl (by simp) (fun tm u h => ⟨?ow6, ?_⟩)
      case ow6 => exact wanted_none rfl
      have f5 : tm.getD 14 undef = .string ⟨((B ++ [44]) ++ C).toArray⟩ := h.dep 5 _ _ (by simp) rfl rfl ⟨_, rfl, by kernel_rfl⟩
      exact ⟨_, u, exec_addT rfl f5 rfl (by simp only [List.length_append, List.length_cons, List.length_nil]; omega), rfl, Below.refl _ _⟩
    case o7 =>
      refine ob_val 7 rfl rfl (by simp) (fun tm u h => ⟨?ow7, ?_⟩)
      case ow7 => exact wanted_none rfl
      have s3 : tm.getD 3 undef = .string ⟨(R).toArray⟩ := h.same 3 (of_decide_eq_true (by kernel_rfl))
      exact ⟨.string ⟨(R).toArray⟩, u, by first | (go_simp; done) | (go_simp; rfl), rfl, Below.refl _ _⟩
    case o8 =>
      refine ob_val 8 rfl rfl (by simp) (fun tm u h => ⟨?ow8, ?_⟩)
      case ow8 => exact wanted_none rfl
      have f6 : tm.getD 15 undef = .string ⟨(((B ++ [44]) ++ C) ++ [44]).toArray⟩ := h.dep 6 _ _ (by simp) rfl rfl ⟨_, rfl, by kernel_rfl⟩
      have f7 : tm.getD 16 undef = .string ⟨(R).toArray⟩ := h.dep 7 _ _ (by simp) rfl rfl ⟨_, rfl, by kernel_rfl⟩
      exact ⟨_, u, exec_addT rfl f6 f7 (by simp only [List.length_append, List.length_cons, List.length_nil]; omega), rfl, Below.refl _ _⟩
    case o9 =>
      refine ob_val 9 rfl rfl (by simp) (fun tm u h => ⟨?ow9, ?_⟩)
      case ow9 => exact wanted_none rfl
      have f8 : tm.getD 17 undef = .string ⟨((((B ++ [44]) ++ C) ++ [44]) ++ R).toArray⟩ := h.dep 8 _ _ (by simp) rfl rfl ⟨_, rfl, by kernel_rfl⟩
      obtain ⟨cB, wB, hcv, hRB, hbB⟩ := bytes_big (authT B C R) u (by unfold authT; simp only [List.length_append, List.length_cons, List.length_nil]; omega)
      exact ⟨_, _, exec_conv rfl f8 hcv, ⟨_, _, _, rfl, by unfold authT; simp only [List.length_append, List.length_cons, List.length_nil]; omega, hRB⟩, hbB⟩
    case o10 =>
      refine ob_call 10 rfl rfl (by simp) (fun tm u h => ⟨?ow10, ?_⟩)
      case ow10 => exact wanted_none rfl
      have f0 : tm.getD 9 undef = .slice (some ⟨g4, 0, none⟩) 32 32 := h.dep 0 _ _ (by simp) rfl rfl ⟨_, rfl, by kernel_rfl⟩
      obtain ⟨a9, n9, c9, f9, hn9, hr9⟩ : fRd (il (authT B C R)) 100000000 (tm.getD 18 undef) u := h.dep 9 _ _ (by simp) rfl rfl ⟨_, rfl, by kernel_rfl⟩
      refine ⟨22, #[.slice (some ⟨g4, 0, none⟩) 32 32, .slice a9 n9 c9], by first | (go_simp; done) | (go_simp; rfl), ?_⟩
      refine (hmac_any _ 32 32 K a9 n9 c9 _ u (hS.carry (Nat.le_refl _) h.s) (by omega) hr9 (by omega) (hKX.below (Nat.le_refl _) h.s)).mono ?_
      rw [HZ.out]
      rintro e u2 ⟨rfl, hb2⟩
      exact ⟨_, rfl, rfl, hb2⟩
  intro af wf hAO
  have k19 : af.tmps.getD 19 undef = .agg (ic .u8 Z).toArray := hAO.got 10 _ _ rfl (by simp) rfl rfl
  have hs := hAO.s
  have p8 : af.tmps.getD 8 undef = .pointer (some ⟨g8, 0, none⟩) := hAO.same 8 (of_decide_eq_true (by kernel_rfl))
  obtain ⟨tm, dfx⟩ := af
  obtain rfl : dfx = [] := hAO.df
  have hsz : tm.size = 20 := hAO.sz
  clear hAO
  have eF : tm = #[tm.getD 0 undef, tm.getD 1 undef, tm.getD 2 undef, tm.getD 3 undef, tm.getD 4 undef, tm.getD 5 undef, tm.getD 6 undef, tm.getD 7 undef, tm.getD 8 undef, tm.getD 9 undef, tm.getD 10 undef, tm.getD 11 undef, tm.getD 12 undef, tm.getD 13 undef, tm.getD 14 undef, tm.getD 15 undef, tm.getD 16 undef, tm.getD 17 undef, tm.getD 18 undef, tm.getD 19 undef] := eta_arr tm 20 hsz
  try dsimp only at eF
  have kF8 : tm.getD 8 undef = .pointer (some ⟨g8, 0, none⟩) := p8
  have kF19 : tm.getD 19 undef = .agg (ic .u8 Z).toArray := k19
  rw [kF8, kF19] at eF
  clear kF8 kF19
  generalize tm.getD 0 undef = vF0 at eF
  generalize tm.getD 1 undef = vF1 at eF
  generalize tm.getD 2 undef = vF2 at eF
  generalize tm.getD 3 undef = vF3 at eF
  generalize tm.getD 4 undef = vF4 at eF
  generalize tm.getD 5 undef = vF5 at eF
  generalize tm.getD 6 undef = vF6 at eF
  generalize tm.getD 7 undef = vF7 at eF
  generalize tm.getD 9 undef = vF9 at eF
  generalize tm.getD 10 undef = vF10 at eF
  generalize tm.getD 11 undef = vF11 at eF
  generalize tm.getD 12 undef = vF12 at eF
  generalize tm.getD 13 undef = vF13 at eF
  generalize tm.getD 14 undef = vF14 at eF
  generalize tm.getD 15 undef = vF15 at eF
  generalize tm.getD 16 undef = vF16 at eF
  generalize tm.getD 17 undef = vF17 at eF
  generalize tm.getD 18 undef = vF18 at eF
  subst eF
  have B8 := A8X.below hs A8X.lt
  refine lx_one 11 (by kernel_rfl) (stepT_store (w' := wf.setRow g8 (ic .u8 Z).toArray) rfl rfl rfl ?rs (fun _ => trivial) ?_)
  case rs => exact exec_store_ar 27 (.tmp 8) (.tmp 19) rfl g8 rfl .u8 Z rfl 27 _ B8 (by rw [hZl]; rfl) (by rw [hZl]; exact hi23)
  have hk1 : Keep (fun j => j = g8) wf (wf.setRow g8 (ic .u8 Z).toArray) := ⟨rfl, rfl, rfl, by simp, fun j _ hj => setRow_other wf g8 j _ hj⟩
  have C8 : Ar (wf.setRow g8 (ic .u8 Z).toArray) g8 27 .u8 Z := B8.row
  generalize wf.setRow g8 (ic .u8 Z).toArray = wg at hk1 C8 ⊢
  refine lx_nil (by kernel_rfl) ?_
  have f1 := HE.out.trans (hs.mono HE.out.size)
  have f2 := f1.trans (hk1.below f1.size (fun q hq => by omega))
  go_wp2
  exact bodyPost_ret (ar_results Tryz.results38 _ _ g8 27 .u8 _ 5 32 rfl C8 Tryz.u23 hZl) rfl ⟨rfl, f2⟩
end Go.Proofs.YtmilcknboaefkaaGreatDoor

/- asksFor; the document's full. -/
namespace Go.Proofs.YtmilcknboaefkaaGreatDoor
open Go.RowKit Go.Shelf

/-- What stands between r= and the first comma. -/
def fullO (C : Tx) : Option Tx := match sgn [114, 61] C with
  | some s => if ix 44 s < s.length then some (prt s) else none
  | none => none
theorem ix_re (s : Tx) : ix 44 (114 :: 61 :: s) = ix 44 s + 2 := by
  rw [ix_ne _ (by decide), ix_ne _ (by decide)]
theorem full_asks (C N : Tx) : fullO C = some N ↔ ix 44 C < C.length ∧ prt C = [114, 61] ++ N := by
  unfold fullO
  cases h : sgn [114, 61] C with
  | some s =>
    have e := sgn_some.1 h
    subst e
    have e1 : ix 44 ([114, 61] ++ s) = ix 44 s + 2 := ix_re s
    have e2 : prt ([114, 61] ++ s) = [114, 61] ++ prt s := by
      unfold prt
      rw [e1]
      rfl
    rw [e1, e2]
    simp only [List.cons_append, List.nil_append, List.length_cons]
    by_cases hx : ix 44 s < s.length
    · rw [if_pos hx]
      constructor
      · intro h'
        cases h'
        exact ⟨by omega, rfl⟩
      · rintro ⟨_, h'⟩
        simp only [List.cons.injEq, true_and] at h'
        rw [h']
    · rw [if_neg hx]
      constructor
      · intro h'; cases h'
      · rintro ⟨h', _⟩; omega
  | none =>
    constructor
    · intro h'; cases h'
    · rintro ⟨_, h'⟩
      have h1 : C = [114, 61] ++ (N ++ rst C) := by
        rw [← List.append_assoc, ← h', prt_rst]
      have h2 := sgn_some.2 h1
      rw [h] at h2
      cases h2
set_option maxHeartbeats 800000 in
theorem asksFor_any (C N : Tx) (w : World) (hC : C.length ≤ 1000000) (hN : N.length ≤ 2000000) (hM : Mx w) :
    Calls Tryz.prog 41 #[.string ⟨C.toArray⟩, .string ⟨N.toArray⟩] w fun e w' => e = .returned (.bool (decide (fullO C = some N))) ∧ Below w.heap.size w w' := by
  have c := cut_any C w hC hM
  have hz := size_tx N
  have hA := app_tx [114, 61] N
  by_cases h : ix 44 C < C.length
  · rw [show decide (ix 44 C < C.length) = true by simpa using h] at c
    by_cases h2 : prt C = [114, 61] ++ N
    · rw [show decide (fullO C = some N) = true by simpa using (full_asks C N).2 ⟨h, h2⟩]
      rw [h2, ← hA] at c
      clear h h2 hA hM
      go_enter Tryz.func41, Tryz.ntmps41
      go_wp2_with (go_at_call 68; refine c.mono ?_; rintro e w1 ⟨⟨R, rfl⟩, q, rfl⟩)
      go_ret
      exact ⟨rfl, below_drewN (Below.refl _ _) q⟩
    · rw [show decide (fullO C = some N) = false by simpa using fun e => h2 ((full_asks C N).1 e).2]
      have hne : ((⟨(prt C).toArray⟩ : ByteArray).toList == ((⟨#[114, 61]⟩ : ByteArray) ++ ⟨N.toArray⟩).toList) = false := by
        rw [show ((⟨#[114, 61]⟩ : ByteArray) ++ ⟨N.toArray⟩) = ⟨([114, 61] ++ N).toArray⟩ from hA, tx_list, tx_list]
        simpa using h2
      obtain ⟨S, HS⟩ : ∃ S, Hid ((⟨(prt C).toArray⟩ : ByteArray) = S) := ⟨_, rfl⟩
      rw [HS.out] at c hne
      clear h h2 hA hM
      go_enter Tryz.func41, Tryz.ntmps41
      go_wp2_with (go_at_call 68; refine c.mono ?_; rintro e w1 ⟨⟨R, rfl⟩, q, rfl⟩)
      go_ret
      exact ⟨rfl, below_drewN (Below.refl _ _) q⟩
  · rw [show decide (ix 44 C < C.length) = false by simpa using h] at c
    rw [show decide (fullO C = some N) = false by simpa using fun e => h ((full_asks C N).1 e).1]
    clear h hM hA
    go_enter Tryz.func41, Tryz.ntmps41
    go_wp2_with (go_at_call 68; refine c.mono ?_; rintro e w1 ⟨⟨R, rfl⟩, q, rfl⟩)
    go_ret
    exact ⟨rfl, below_drewN (Below.refl _ _) q⟩

def fullV (C : Tx) : Value := .tuple #[.string ⟨((fullO C).getD []).toArray⟩, .bool (fullO C).isSome]
set_option maxHeartbeats 800000 in
theorem refFull_any (C : Tx) (w : World) (hC : C.length ≤ 1000000) :
    Calls Tryz.prog 43 #[.string ⟨C.toArray⟩] w fun e w' => e = .returned (fullV C) ∧ w' = w := by
  have c := starts_any C [114, 61] w hC (by decide)
  cases h : sgn [114, 61] C with
  | none =>
    have e : fullV C = .tuple #[.string ⟨#[]⟩, .bool false] := by unfold fullV fullO; rw [h]; rfl
    rw [e]
    rw [h] at c
    have c' : Calls Tryz.prog 65 #[.string ⟨C.toArray⟩, .string ⟨#[114, 61]⟩] w fun e w' => e = .returned (.tuple #[.string ⟨#[]⟩, .bool false]) ∧ w' = w := c
    have c2 := fun w => at_any [] 44 w (by decide)
    rw [show (if ix 44 ([] : Tx) < ([] : Tx).length then (ix 44 ([] : Tx) : Int) else -1) = -1 from rfl] at c2
    have c2' : ∀ w, Calls Tryz.prog 66 #[.string ⟨#[]⟩, .int .u8 44] w fun e w' => e = .returned (.int .i64 (-1)) ∧ w' = w := c2
    clear c c2 e h
    obtain ⟨S, HS⟩ : ∃ S, Hid ((⟨C.toArray⟩ : ByteArray) = S) := ⟨_, rfl⟩
    rw [HS.out] at c' ⊢
    go_enter Tryz.func43, Tryz.ntmps43
    go_wp2_with (first
      | (go_at_call 65; refine c'.mono ?_; rintro e w1 ⟨rfl, rfl⟩)
      | (go_at_call 66; refine (c2' _).mono ?_; rintro e w1 ⟨rfl, rfl⟩))
    go_ret2
    exact ⟨rfl, rfl⟩
  | some s =>
    have hs : C = [114, 61] ++ s := sgn_some.1 h
    have hl : s.length ≤ 1000000 := by have := congrArg List.length hs; simp at this; omega
    have c' : Calls Tryz.prog 65 #[.string ⟨C.toArray⟩, .string ⟨#[114, 61]⟩] w fun e w' => e = .returned (.tuple #[.string ⟨s.toArray⟩, .bool true]) ∧ w' = w := by rw [h] at c; exact c
    have c2 := fun w => at_any s 44 w hl
    have c2' : ∀ w, Calls Tryz.prog 66 #[.string ⟨s.toArray⟩, .int .u8 44] w fun e w' => e = .returned (.int .i64 (if ix 44 s < s.length then (ix 44 s : Int) else -1)) ∧ w' = w := c2
    have hz := size_tx s
    clear c c2
    by_cases hx : ix 44 s < s.length
    · have e : fullV C = .tuple #[.string ⟨(prt s).toArray⟩, .bool true] := by unfold fullV fullO; rw [h]; simp only [if_pos hx]; rfl
      rw [e]
      rw [if_pos hx] at c2'
      have hsl : (⟨s.toArray⟩ : ByteArray).extract 0 (ix 44 s) = ⟨(prt s).toArray⟩ := by
        apply ByteArray.ext
        unfold prt
        simp [ByteArray.data_extract]
      obtain ⟨k, Hk⟩ : ∃ k, Hid (ix 44 s = k) := ⟨_, rfl⟩
      obtain ⟨S, HS⟩ : ∃ S, Hid ((⟨C.toArray⟩ : ByteArray) = S) := ⟨_, rfl⟩
      obtain ⟨S', HS'⟩ : ∃ S, Hid ((⟨s.toArray⟩ : ByteArray) = S) := ⟨_, rfl⟩
      obtain ⟨S2, HS2⟩ : ∃ S, Hid ((⟨(prt s).toArray⟩ : ByteArray) = S) := ⟨_, rfl⟩
      rw [HS.out, HS'.out] at c'
      rw [HS'.out, Hk.out] at c2'
      rw [HS'.out] at hz
      rw [HS'.out, Hk.out, HS2.out] at hsl
      rw [Hk.out] at hx
      rw [HS.out, HS2.out]
      have hk1 : (k : Int) ≤ (s.length : Int) := by omega
      clear e h hs
      go_enter Tryz.func43, Tryz.ntmps43
      go_wp2_with (first
        | (go_at_call 65; refine c'.mono ?_; rintro e w1 ⟨rfl, rfl⟩)
        | (go_at_call 66; refine (c2' _).mono ?_; rintro e w1 ⟨rfl, rfl⟩))
      go_ret2
      exact ⟨rfl, rfl⟩
    · have e : fullV C = .tuple #[.string ⟨#[]⟩, .bool false] := by unfold fullV fullO; rw [h]; simp only [if_neg hx]; rfl
      rw [e]
      rw [if_neg hx] at c2'
      clear e h hs hx hz hl
      obtain ⟨S, HS⟩ : ∃ S, Hid ((⟨C.toArray⟩ : ByteArray) = S) := ⟨_, rfl⟩
      rw [HS.out] at c' ⊢
      go_enter Tryz.func43, Tryz.ntmps43
      go_wp2_with (first
        | (go_at_call 65; refine c'.mono ?_; rintro e w1 ⟨rfl, rfl⟩)
        | (go_at_call 66; refine (c2' _).mono ?_; rintro e w1 ⟨rfl, rfl⟩))
      go_ret2
      exact ⟨rfl, rfl⟩
end Go.Proofs.YtmilcknboaefkaaGreatDoor

/- scram.proves. -/
namespace Go.Proofs.YtmilcknboaefkaaGreatDoor
open Go.RowKit Go.Shelf

theorem exec_load_rowP {o : Oper} {ρ : Operand → Value} {w : World} (ty : TypeId) (x : Operand) (ho : o.op = .load ty x) (g : Nat) (hx : ρ x = .pointer (some ⟨g, 0, none⟩)) (t : TypeId) (cs : Array Value) (fs : Array Field) (hg : w.heap[g]? = some (.cells cs t (0, 0)))
    (hu : Tryz.prog.underlying ty = some (.struct fs)) (hi : (Tryz.prog.info? ty).map (·.size) = some cs.size) :
    (execOp ρ o).run Tryz.prog w = .ok (.value (.agg cs)) w := by
  unfold execOp
  simp only [ho, hx, Instr.loadAt, Instr.sureAddr, Sem.run_bind, Sem.run_pure, Result.andThen_ok, run_loadVar_row w g t ty cs (0, 0) _ hg hu rfl hi]
/-- copy of 32 bytes over an array of 32. -/
theorem exec_copy32 {o : Oper} {ρ : Operand → Value} {w : World} (d s : Operand) (ho : o.op = .call { callee := .builtin .copy, args := #[d, s], argTypes := #[22, 22] }) (g cd : Nat) (hd : ρ d = .slice (some ⟨g, 0, none⟩) 32 cd) (t : TypeId) (xs : List Int) (hg : Ar w g t .u8 xs) (hn : xs.length = 32)
    (ao : Option Addr) (c : Nat) (ys : List Int) (hs : ρ s = .slice ao 32 c) (hr : Rd w ao 32 c ys) : (execOp ρ o).run Tryz.prog w = .ok (.value (goInt 32)) (w.setRow g (ic .u8 ys).toArray) := by
  have hu : Tryz.prog.underlying 22 = some (.slice 5) := Tryz.underlying22
  have hsz : (Tryz.prog.info? 5).map (·.size) = some 1 := by kernel_rfl
  have hl := hr.len
  cases ao with
  | none => obtain ⟨h1, _⟩ := rd_noneK hr rfl; omega
  | some ad =>
    have hrun := run_copy_row (P := Tryz.prog) w 22 22 o.type 5 g 0 32 cd ad 32 c _ t (bc ys) hu hsz hg (by rw [bc_len, hl]; rfl) (fun j v hv => hr.news rfl j v hv) (by rw [bc_len, hl]; simp [ic_len, hn]) (bc_one ys)
    have e : ((ic .u8 xs).toArray.toList.take 0 ++ bc ys ++ (ic .u8 xs).toArray.toList.drop (0 + (bc ys).length)).toArray = (ic .u8 ys).toArray := by
      have : (ic .u8 xs).drop (bc ys).length = [] := List.drop_eq_nil_of_le (by rw [ic_len, bc_len, hn, hl]; exact Nat.le_refl _)
      simp only [List.take_zero, List.nil_append, Nat.zero_add, this, List.append_nil]
      rfl
    rw [e, bc_len, hl] at hrun
    simp only [execOp, ho, resolve, invoke, builtin, Sem.run_bind, Sem.run_pure, Result.andThen_ok, List.map_toArray, List.map_cons, List.map_nil, hd, hs, hrun]
    rfl
def fArr (B : Nat) : Value → World → Prop := fun v w => ∃ g, v = .pointer (some ⟨g, 0, none⟩) ∧ B ≤ g ∧ Ar w g 27 .u8 (List.replicate 32 0)
theorem lasts_arr (B : Nat) : Lasts (fArr B) := fun _ _ _ hb ⟨g, e, hB, hA⟩ => ⟨g, e, hB, hA.below hb hA.lt⟩

def provesB (K : List Int) (B C : Tx) (pf : List Int) (ba : Tx) : Bool := decide (pf.length = 32 ∧ sha (xb pf (hmac K (il (authT B C ba))) 32) = K)

set_option maxHeartbeats 1600000 in
set_option maxRecDepth 100000 in
theorem proves_any (K : List Int) (H U F B C hd no ba : Tx) (pf : List Int) (a : Option Addr) (n c : Nat) (w : World) (hKl : K.length = 32) (hKb : Bd K) (hB : B.length ≤ 2000000) (hC : C.length ≤ 2000000) (hba : ba.length ≤ 2000000) (hR : Rd w a n c pf) (hK : Kt w) :
    Calls Tryz.prog 42 #[.agg (ic .u8 K).toArray, .agg (fcells ⟨H, U, F, B⟩), .string ⟨C.toArray⟩, .agg (lcells ⟨hd, no, pf, ba⟩ (.slice a n c))] w fun e w' => e = .returned (.bool (provesB K B C pf ba)) ∧ Below w.heap.size w w' := by
  have hi23 := (size_of Tryz.u23).2
  have hi35 : (Tryz.prog.info? 35).map (·.size) = some 4 := by kernel_rfl
  have hnF : ∀ u : World, FAt (u.alloc (.cells #[.string ⟨H.toArray⟩, .string ⟨U.toArray⟩, .string ⟨F.toArray⟩, .string ⟨B.toArray⟩] 35)) u.heap.size (.string ⟨H.toArray⟩) (.string ⟨U.toArray⟩) (.string ⟨F.toArray⟩) (.string ⟨B.toArray⟩) := fun u => heap_alloc_new u _
  have hnL : ∀ u : World, LAt (u.alloc (.cells #[.string ⟨hd.toArray⟩, .string ⟨no.toArray⟩, .slice a n c, .string ⟨ba.toArray⟩] 46)) u.heap.size (.string ⟨hd.toArray⟩) (.string ⟨no.toArray⟩) (.slice a n c) (.string ⟨ba.toArray⟩) := fun u => heap_alloc_new u _
  have HnF : Hid _ := hnF
  have HnL : Hid _ := hnL
  have Hal : Hid (∀ (u : World) (o : Obj), Below u.heap.size u (u.alloc o)) := fun u o => (Below.refl _ _).alloc (Nat.le_refl _) o
  clear hnF hnL
  have hlen := hR.len
  unfold fcells lcells
  dsimp only
  by_cases hp : n = 32
  · have hpl : pf.length = 32 := by omega
    have hpb := hR.bytes
    obtain ⟨Z, HZ⟩ := hidE (hmac K (il (authT B C ba)))
    have hZl : Z.length = 32 := by rw [← HZ.out]; exact hmac_len _ _
    have cS := fun (u : World) (h : Kt u) => signature_any K H U F B C ba u hKl hKb hB hC hba h
    rw [HZ.out] at cS
    obtain ⟨X, HX⟩ := hidE (xb pf Z 32)
    have hXl : X.length = 32 := by rw [← HX.out, xb_len]; exact hpl
    have hXb : Bd X := by rw [← HX.out]; exact xb_bd hpb 32
    have cX := fun (u : World) => xor_any pf Z u hpl hZl
    rw [HX.out] at cX
    obtain ⟨Y, HY⟩ := hidE (sha X)
    have hYl : Y.length = 32 := by rw [← HY.out]; exact shaB_len _ _ _
    have hYb : Bd Y := by rw [← HY.out]; exact sha_bd _
    have hE : provesB K B C pf ba = decide (Y = K) := by unfold provesB; rw [HZ.out, HX.out, HY.out]; simp [hpl]
    rw [hE]
    clear hE hlen
    subst hp
    have tk1 : True := trivial
    go_enter Tryz.func42, Tryz.ntmps42
    go_wp2_with (first
      | (refine wp_box_ar rfl 27 (.tmp 0) rfl .u8 K rfl ?_; intro g4 w1 A4 hg4 hb1; have hF0 := HnF.out w1; have hL0 := HnL.out (w1.alloc (.cells #[.string ⟨H.toArray⟩, .string ⟨U.toArray⟩, .string ⟨F.toArray⟩, .string ⟨B.toArray⟩] 35)); have d2 := hL0.c2)
      | (clear tk1; refine wp_alloc_ar rfl 27 rfl .u8 (List.replicate 32 0) 32 Tryz.z23 ?_; intro g9 w4 A9 hg9 hb4))
    have b2 := Hal.out w1 (.cells #[.string ⟨H.toArray⟩, .string ⟨U.toArray⟩, .string ⟨F.toArray⟩, .string ⟨B.toArray⟩] 35)
    have b3 := Hal.out (w1.alloc (.cells #[.string ⟨H.toArray⟩, .string ⟨U.toArray⟩, .string ⟨F.toArray⟩, .string ⟨B.toArray⟩] 35)) (.cells #[.string ⟨hd.toArray⟩, .string ⟨no.toArray⟩, .slice a 32 c, .string ⟨ba.toArray⟩] 46)
    have hz : (w1.alloc (.cells #[.string ⟨H.toArray⟩, .string ⟨U.toArray⟩, .string ⟨F.toArray⟩, .string ⟨B.toArray⟩] 35)).heap.size = w1.heap.size + 1 := World.size_alloc _ _
    have hz3 : ((w1.alloc (.cells #[.string ⟨H.toArray⟩, .string ⟨U.toArray⟩, .string ⟨F.toArray⟩, .string ⟨B.toArray⟩] 35)).alloc (.cells #[.string ⟨hd.toArray⟩, .string ⟨no.toArray⟩, .slice a 32 c, .string ⟨ba.toArray⟩] 46)).heap.size = w1.heap.size + 1 + 1 := by rw [World.size_alloc, World.size_alloc]
    have b34 := b3.trans (hb4.mono b3.size)
    have b24 := b2.trans (b34.mono b2.size)
    have hL4 := hL0.below hb4
    have hF4 := (hF0.below b3).below hb4
    have A4' := A4.below b24 A4.lt
    have l4 := A4.lt
    have e4 := hb1.trans (b24.mono hb1.size)
    have hg9' : w1.heap.size + 1 + 1 ≤ g9 := by rw [← hz3]; exact hg9
    have s1 := hb1.size
    rw [hz] at hL4
    clear hz hz3 b2 b3 b34 b24 hb4 hg9 hF0 hL0 A4 d2
    obtain ⟨g5, Hg5⟩ : ∃ g5, Hid (w1.heap.size = g5) := ⟨_, rfl⟩
    have hg5 : w.heap.size ≤ g5 := by rw [← Hg5.out]; exact s1
    rw [Hg5.out] at hL4 hF4 hg9' l4 ⊢
    have HS : LAt w4.drew (g5 + 1) (.string ⟨hd.toArray⟩) (.string ⟨no.toArray⟩) (.slice a 32 c) (.string ⟨ba.toArray⟩) := hL4
    have RP : Rd w4.drew a 32 c pf := hR.carry (Nat.le_refl _) e4.drew
    have A9d : Ar w4.drew g9 27 .u8 (List.replicate 32 0) := A9
    have hk5 : Keep (fun j => j = g9) w4.drew (w4.drew.setRow g9 (ic .u8 pf).toArray) := ⟨rfl, rfl, rfl, by simp, fun j _ hj => setRow_other w4.drew g9 j _ hj⟩
    have hLk := HS.keep hk5 (by omega)
    have hFk : FAt _ _ _ _ _ _ := FAt.keep (w := w4.drew) hF4 hk5 (by omega)
    have A4k : Ar _ _ _ _ _ := Ar.keep (w := w4.drew) A4' hk5 (by omega)
    have A9k : Ar (w4.drew.setRow g9 (ic .u8 pf).toArray) g9 27 .u8 pf := A9d.row
    have e5 : Below w.heap.size w (w4.drew.setRow g9 (ic .u8 pf).toArray) := e4.drew.trans (hk5.below e4.drew.size (fun q hq => by omega))
    refine wp_region_lx (fun u => LAt u (g5 + 1) (.string ⟨hd.toArray⟩) (.string ⟨no.toArray⟩) (.slice a 32 c) (.string ⟨ba.toArray⟩)) [] 4 (by kernel_rfl) (by kernel_rfl) ?_
    refine lx_rd 0 (.slice (some ⟨g9, 0, none⟩) 32 32) (by kernel_rfl) (fun _ _ d _ _ h => by cases d <;> exact h) (by kernel_rfl) HS rfl rfl rfl (fun w' hS => ?hRP0) ?_
    case hRP0 => first | (go_simp; rfl) | go_simp
    simp only [List.setIfInBounds_toArray, List.set_cons_zero, List.set_cons_succ]
    refine lx_rd 1 (.pointer (some ⟨g5 + 1, 2, none⟩)) (by kernel_rfl) (fun _ _ d _ _ h => by cases d <;> exact h) (by kernel_rfl) HS rfl rfl rfl (fun w' hS => ?hRP1) ?_
    case hRP1 => first | (go_simp; rfl) | go_simp
    simp only [List.setIfInBounds_toArray, List.set_cons_zero, List.set_cons_succ]
    refine lx_rd 2 (.slice a 32 c) (by kernel_rfl) (fun _ _ d _ _ h => by cases d <;> exact h) (by kernel_rfl) HS rfl rfl rfl (fun w' hS => ?hRP2) ?_
    case hRP2 => have hc := hS.c2; first | (go_simp; rfl) | go_simp
    simp only [List.setIfInBounds_toArray, List.set_cons_zero, List.set_cons_succ]
    refine lx_one 3 (by kernel_rfl) (stepT_val (w' := w4.drew.setRow g9 (ic .u8 pf).toArray) (goInt 32) rfl rfl rfl (exec_copy32 (.tmp 16) (.tmp 18) rfl g9 32 rfl 27 (List.replicate 32 0) A9d rfl a c pf rfl RP) (fun _ => hLk) ?_)
    refine lx_nil (by kernel_rfl) ?_
    simp only [List.setIfInBounds_toArray, List.set_cons_zero, List.set_cons_succ]
    generalize w4.drew.setRow g9 (ic .u8 pf).toArray = w5 at hk5 hLk hFk A4k A9k e5 ⊢
    have A9X : Ar w5.drew g9 27 .u8 pf := A9k
    have A4X : Ar w5.drew g4 27 .u8 K := A4k
    have hFX : FAt w5.drew g5 (.string ⟨H.toArray⟩) (.string ⟨U.toArray⟩) (.string ⟨F.toArray⟩) (.string ⟨B.toArray⟩) := hFk
    have hLX : LAt w5.drew (g5 + 1) (.string ⟨hd.toArray⟩) (.string ⟨no.toArray⟩) (.slice a 32 c) (.string ⟨ba.toArray⟩) := hLk
    have hKX : Kt w5.drew := (hK.below (Nat.le_refl _) e5).drewN 1
    have HE : Hid (Below w.heap.size w w5.drew) := e5.drew
    clear hk5 hLk hFk A4k A9k A9d A9 RP HS hL4 hF4 A4' hR
    go_wp2_with fail
    refine wp_region_facts [0, 1, 2, 3, 4, 5, 6, 7, 8] (Gl [(fEq (.agg (ic .u8 pf).toArray)), (fEq (.agg (ic .u8 K).toArray)), (fEq (.agg (fcells ⟨H, U, F, B⟩))), (fEq (.string ⟨C.toArray⟩)), (fEq (.pointer (some ⟨g5 + 1, 3, none⟩))), (fEq (.string ⟨ba.toArray⟩)), (fEq (.agg (ic .u8 Z).toArray)), (fEq (.agg (ic .u8 X).toArray)), (fArr w5.heap.size)]) 10 1 (by kernel_rfl) (by kernel_rfl) rfl (by kernel_rfl) (lasts_list ?olst) ?oob ?_
    case olst =>
      intro g hg
      simp only [List.mem_cons, List.not_mem_nil, or_false] at hg
      rcases hg with rfl | rfl | rfl | rfl | rfl | rfl | rfl | rfl | rfl
      · exact lasts_eq _
      · exact lasts_eq _
      · exact lasts_eq _
      · exact lasts_eq _
      · exact lasts_eq _
      · exact lasts_eq _
      · exact lasts_eq _
      · exact lasts_eq _
      · exact lasts_arr _
    case oob =>
      refine (allIn_cons ?o0 (allIn_cons ?o1 (allIn_cons ?o2 (allIn_cons ?o3 (allIn_cons ?o4 (allIn_cons ?o5 (allIn_cons ?o6 (allIn_cons ?o7 (allIn_cons ?o8 allIn_nil)))))))))
      case o0 =>
        refine ob_val 0 rfl rfl (by simp) (fun tm u h => ⟨?ow0, ?_⟩)
        case ow0 => exact wanted_none rfl
        have s9 : tm.getD 9 undef = .pointer (some ⟨g9, 0, none⟩) := h.same 9 (of_decide_eq_true (by kernel_rfl))
        exact ⟨_, u, exec_load_ar 27 (.tmp 9) rfl g9 s9 27 .u8 pf 5 32 (A9X.below h.s A9X.lt) Tryz.u23 hpl, rfl, Below.refl _ _⟩
      case o1 =>
        refine ob_val 1 rfl rfl (by simp) (fun tm u h => ⟨?ow1, ?_⟩)
        case ow1 => exact wanted_none rfl
        have s4 : tm.getD 4 undef = .pointer (some ⟨g4, 0, none⟩) := h.same 4 (of_decide_eq_true (by kernel_rfl))
        exact ⟨_, u, exec_load_ar 27 (.tmp 4) rfl g4 s4 27 .u8 K 5 32 (A4X.below h.s A4X.lt) Tryz.u23 hKl, rfl, Below.refl _ _⟩
      case o2 =>
        refine ob_val 2 rfl rfl (by simp) (fun tm u h => ⟨?ow2, ?_⟩)
        case ow2 => exact wanted_none rfl
        have s5 : tm.getD 5 undef = .pointer (some ⟨g5, 0, none⟩) := h.same 5 (of_decide_eq_true (by kernel_rfl))
        exact ⟨_, u, exec_load_rowP 35 (.tmp 5) rfl g5 s5 35 _ _ (hFX.below h.s) Tryz.underlying35 hi35, rfl, Below.refl _ _⟩
      case o3 =>
        refine ob_val 3 rfl rfl (by simp) (fun tm u h => ⟨?ow3, ?_⟩)
        case ow3 => exact wanted_none rfl
        have s2 : tm.getD 2 undef = .string ⟨C.toArray⟩ := h.same 2 (of_decide_eq_true (by kernel_rfl))
        exact ⟨.string ⟨C.toArray⟩, u, by first | (go_simp; done) | (go_simp; rfl), rfl, Below.refl _ _⟩
      case o4 =>
        refine ob_val 4 rfl rfl (by simp) (fun tm u h => ⟨?ow4, ?_⟩)
        case ow4 => exact wanted_none rfl
        have s7 : tm.getD 7 undef = .pointer (some ⟨g5 + 1, 0, none⟩) := h.same 7 (of_decide_eq_true (by kernel_rfl))
        refine ⟨.pointer (some ⟨g5 + 1, 3, none⟩), u, ?_, rfl, Below.refl _ _⟩
        first | (go_simp; done) | (go_simp; rfl)
      case o5 =>
        refine ob_val 5 rfl rfl (by simp) (fun tm u h => ⟨?ow5, ?_⟩)
        case ow5 => exact wanted_none rfl
        have f4 : tm.getD 24 undef = .pointer (some ⟨g5 + 1, 3, none⟩) := h.dep 4 _ _ (by simp) rfl rfl ⟨_, rfl, by kernel_rfl⟩
        have hc := (hLX.below h.s).c3
        refine ⟨_, u, ?_, rfl, Below.refl _ _⟩
        first | (go_simp; done) | (go_simp; rfl)
      case o6 =>
        refine ob_call 6 rfl rfl (by simp) (fun tm u h => ⟨?ow6, ?_⟩)
        case ow6 => exact wanted_none rfl
        have f1 : tm.getD 21 undef = .agg (ic .u8 K).toArray := h.dep 1 _ _ (by simp) rfl rfl ⟨_, rfl, by kernel_rfl⟩
        have f2 : tm.getD 22 undef = .agg (fcells ⟨H, U, F, B⟩) := h.dep 2 _ _ (by simp) rfl rfl ⟨_, rfl, by kernel_rfl⟩
        have f3 : tm.getD 23 undef = .string ⟨C.toArray⟩ := h.dep 3 _ _ (by simp) rfl rfl ⟨_, rfl, by kernel_rfl⟩
        have f5 : tm.getD 25 undef = .string ⟨ba.toArray⟩ := h.dep 5 _ _ (by simp) rfl rfl ⟨_, rfl, by kernel_rfl⟩
        refine ⟨38, #[.agg (ic .u8 K).toArray, .agg (fcells ⟨H, U, F, B⟩), .string ⟨C.toArray⟩, .string ⟨ba.toArray⟩], by first | (go_simp; done) | (go_simp; rfl), ?_⟩
        refine (cS u (hKX.below (Nat.le_refl _) h.s)).mono ?_
        rintro e u2 ⟨rfl, hb2⟩
        exact ⟨_, rfl, rfl, hb2⟩
      case o7 =>
        refine ob_call 7 rfl rfl (by simp) (fun tm u h => ⟨?ow7, ?_⟩)
        case ow7 => exact wanted_none rfl
        have f0 : tm.getD 20 undef = .agg (ic .u8 pf).toArray := h.dep 0 _ _ (by simp) rfl rfl ⟨_, rfl, by kernel_rfl⟩
        have f6 : tm.getD 26 undef = .agg (ic .u8 Z).toArray := h.dep 6 _ _ (by simp) rfl rfl ⟨_, rfl, by kernel_rfl⟩
        refine ⟨24, #[.agg (ic .u8 pf).toArray, .agg (ic .u8 Z).toArray], by first | (go_simp; done) | (go_simp; rfl), ?_⟩
        refine (cX u).mono ?_
        rintro e u2 ⟨rfl, hb2⟩
        exact ⟨_, rfl, rfl, hb2⟩
      case o8 =>
        refine ob_val 8 rfl rfl (by simp) (fun tm u h => ⟨?ow8, ?_⟩)
        case ow8 => exact wanted_none rfl
        refine ⟨.pointer (some ⟨u.heap.size, 0, none⟩), u.alloc (.cells (ic .u8 (List.replicate 32 0)).toArray 27), ?_, ⟨u.heap.size, rfl, h.s.size, heap_alloc_new _ _⟩, (Below.refl _ _).alloc (Nat.le_refl _) _⟩
        first | (go_simp; done) | (go_simp; rfl) | (exact exec_alloc_ar rfl Tryz.z23)
    intro af wf hAO
    have k27 : af.tmps.getD 27 undef = .agg (ic .u8 X).toArray := hAO.got 7 _ _ rfl (by simp) rfl rfl
    obtain ⟨gX, p10, hgX, AX⟩ : fArr w5.heap.size (af.tmps.getD 10 undef) wf := hAO.got 8 _ _ rfl (by simp) rfl rfl
    have hs := hAO.s
    have p4 : af.tmps.getD 4 undef = .pointer (some ⟨g4, 0, none⟩) := hAO.same 4 (of_decide_eq_true (by kernel_rfl))
    obtain ⟨tm, dfx⟩ := af
    obtain rfl : dfx = [] := hAO.df
    have hsz : tm.size = 33 := hAO.sz
    clear hAO
    have eF : tm = #[tm.getD 0 undef, tm.getD 1 undef, tm.getD 2 undef, tm.getD 3 undef, tm.getD 4 undef, tm.getD 5 undef, tm.getD 6 undef, tm.getD 7 undef, tm.getD 8 undef, tm.getD 9 undef, tm.getD 10 undef, tm.getD 11 undef, tm.getD 12 undef, tm.getD 13 undef, tm.getD 14 undef, tm.getD 15 undef, tm.getD 16 undef, tm.getD 17 undef, tm.getD 18 undef, tm.getD 19 undef, tm.getD 20 undef, tm.getD 21 undef, tm.getD 22 undef, tm.getD 23 undef, tm.getD 24 undef, tm.getD 25 undef, tm.getD 26 undef, tm.getD 27 undef, tm.getD 28 undef, tm.getD 29 undef, tm.getD 30 undef, tm.getD 31 undef, tm.getD 32 undef] := eta_arr tm 33 hsz
    try dsimp only at eF
    have kF4 : tm.getD 4 undef = .pointer (some ⟨g4, 0, none⟩) := p4
    have kF10 : tm.getD 10 undef = .pointer (some ⟨gX, 0, none⟩) := p10
    have kF27 : tm.getD 27 undef = .agg (ic .u8 X).toArray := k27
    rw [kF4, kF10, kF27] at eF
    clear kF4 kF10 kF27
    generalize tm.getD 0 undef = vF0 at eF
    generalize tm.getD 1 undef = vF1 at eF
    generalize tm.getD 2 undef = vF2 at eF
    generalize tm.getD 3 undef = vF3 at eF
    generalize tm.getD 5 undef = vF5 at eF
    generalize tm.getD 6 undef = vF6 at eF
    generalize tm.getD 7 undef = vF7 at eF
    generalize tm.getD 8 undef = vF8 at eF
    generalize tm.getD 9 undef = vF9 at eF
    generalize tm.getD 11 undef = vF11 at eF
    generalize tm.getD 12 undef = vF12 at eF
    generalize tm.getD 13 undef = vF13 at eF
    generalize tm.getD 14 undef = vF14 at eF
    generalize tm.getD 15 undef = vF15 at eF
    generalize tm.getD 16 undef = vF16 at eF
    generalize tm.getD 17 undef = vF17 at eF
    generalize tm.getD 18 undef = vF18 at eF
    generalize tm.getD 19 undef = vF19 at eF
    generalize tm.getD 20 undef = vF20 at eF
    generalize tm.getD 21 undef = vF21 at eF
    generalize tm.getD 22 undef = vF22 at eF
    generalize tm.getD 23 undef = vF23 at eF
    generalize tm.getD 24 undef = vF24 at eF
    generalize tm.getD 25 undef = vF25 at eF
    generalize tm.getD 26 undef = vF26 at eF
    generalize tm.getD 28 undef = vF28 at eF
    generalize tm.getD 29 undef = vF29 at eF
    generalize tm.getD 30 undef = vF30 at eF
    generalize tm.getD 31 undef = vF31 at eF
    generalize tm.getD 32 undef = vF32 at eF
    subst eF
    have A4f := A4X.below hs A4X.lt
    have n4 : ¬ g4 = gX := by have := A4X.lt; have h5 : w5.drew.heap.size = w5.heap.size := rfl; omega
    have f1 := HE.out.trans (hs.mono HE.out.size)
    have hgw : w.heap.size ≤ gX := Nat.le_trans e5.size hgX
    refine lx_one 9 (by kernel_rfl) (stepT_store (w' := wf.setRow gX (ic .u8 X).toArray) rfl rfl rfl (exec_store_ar 27 (.tmp 10) (.tmp 27) rfl gX rfl .u8 X rfl 27 _ AX (by rw [hXl]; rfl) (by rw [hXl]; exact hi23)) (fun _ => trivial) ?_)
    refine lx_nil (by kernel_rfl) ?_
    have hk6 : Keep (fun j => j = gX) wf (wf.setRow gX (ic .u8 X).toArray) := ⟨rfl, rfl, rfl, by simp, fun j _ hj => setRow_other wf gX j _ hj⟩
    have AX6 : Ar (wf.setRow gX (ic .u8 X).toArray) gX 27 .u8 X := AX.row
    generalize wf.setRow gX (ic .u8 X).toArray = w6 at hk6 AX6 ⊢
    have A46 := A4f.keep hk6 n4
    have e6 : Below w.heap.size w w6 := f1.trans (hk6.below f1.size (fun q hq => by omega))
    have hRX : Rd w6 (some ⟨gX, 0, none⟩) 32 32 X := by have := rd_row AX6 hXb (by rw [hXl]; unfold maxLen; omega); rw [hXl] at this; exact this
    have hK6 := hK.below (Nat.le_refl _) e6
    clear A4f f1 hk6 hs A9X A4X hFX hLX hKX HE e5 e4
    go_wp2_with (first
      | (go_at_call 25; refine (sha_any _ 32 32 X _ hRX (by omega) hK6).mono ?_; rw [HY.out]; rintro e w7 ⟨rfl, hb7⟩)
      | (refine wp_alloc_ar rfl 27 rfl .u8 (List.replicate 32 0) 32 Tryz.z23 ?_; intro gY w8 AY hgY hb8)
      | (refine wp_store_ar rfl 27 (.tmp 11) (.tmp 29) rfl gY rfl .u8 Y rfl 27 _ AY (by rw [hYl]; rfl) (by rw [hYl]; exact hi23) ?_; intro w9 AY9 hk9 hs9; clear hs9))
    have b8 := hb7.trans (hb8.mono hb7.size)
    have l46 := A46.lt
    have A49 := (A46.below b8 l46).keep hk9 (by have := hb7.size; omega)
    have e8 := e6.trans (b8.mono e6.size)
    have e9 : Below w.heap.size w w9 := e8.trans (hk9.below e8.size (fun q hq => by have := hb7.size; have := e6.size; omega))
    have RY : Rd w9.drew (some ⟨gY, 0, none⟩) 32 32 Y := by have := rd_row AY9 hYb (by rw [hYl]; unfold maxLen; omega); rw [hYl] at this; exact rd_drewN this 1
    have RK : Rd w9.drew (some ⟨g4, 0, none⟩) 32 32 K := by have := rd_row A49 hKb (by rw [hKl]; unfold maxLen; omega); rw [hKl] at this; exact rd_drewN this 1
    refine wp_region_lx (fun _ => True) [] 4 (by kernel_rfl) (by kernel_rfl) ?_
    have HT : True := trivial
    refine lx_rd 0 (.slice (some ⟨gY, 0, none⟩) 32 32) (by kernel_rfl) (fun _ _ d _ _ h => by cases d <;> exact h) (by kernel_rfl) HT rfl rfl rfl (fun w' hS => ?hRQ0) ?_
    case hRQ0 => first | (go_simp; rfl) | go_simp
    simp only [List.setIfInBounds_toArray, List.set_cons_zero, List.set_cons_succ]
    refine lx_rd 1 (.slice (some ⟨g4, 0, none⟩) 32 32) (by kernel_rfl) (fun _ _ d _ _ h => by cases d <;> exact h) (by kernel_rfl) HT rfl rfl rfl (fun w' hS => ?hRQ1) ?_
    case hRQ1 => first | (go_simp; rfl) | go_simp
    simp only [List.setIfInBounds_toArray, List.set_cons_zero, List.set_cons_succ]
    refine lx_one 2 (by kernel_rfl) (stepT_call 69 #[.slice (some ⟨gY, 0, none⟩) 32 32, .slice (some ⟨g4, 0, none⟩) 32 32] rfl rfl rfl (by first | (go_simp; rfl) | go_simp) ?_)
    refine (equal_any _ 32 32 Y _ 32 32 K _ RY RK).mono ?_
    rintro e wz ⟨rfl, q, rfl⟩
    refine ⟨_, rfl, fun _ => trivial, ?_⟩
    simp only [List.setIfInBounds_toArray, List.set_cons_zero, List.set_cons_succ]
    refine lx_one 3 (by kernel_rfl) (stepT_val (w' := w9.drew.drewN q) (.bool (decide (Y = K))) rfl rfl rfl (by first | (go_simp; done) | (go_simp; rfl)) (fun _ => trivial) ?_)
    refine lx_nil (by kernel_rfl) ?_
    simp only [List.setIfInBounds_toArray, List.set_cons_zero, List.set_cons_succ]
    go_wp2
    go_ret
    exact ⟨rfl, below_drewN e9.drew q⟩
  · have hE : provesB K B C pf ba = false := by unfold provesB; simp; intro h; omega
    rw [hE]
    have hn0 : ¬ (n : Int) = 32 := by omega
    clear hE
    go_enter Tryz.func42, Tryz.ntmps42
    go_wp2_with (first
      | (refine wp_box_ar rfl 27 (.tmp 0) rfl .u8 K rfl ?_; intro g4 w1 A4 hg4 hb1; have hL0 := HnL.out (w1.alloc (.cells #[.string ⟨H.toArray⟩, .string ⟨U.toArray⟩, .string ⟨F.toArray⟩, .string ⟨B.toArray⟩] 35)); have d2 := hL0.c2))
    go_ret
    exact ⟨rfl, (hb1.alloc hb1.size _).alloc (by have := hb1.size; simp; omega) _⟩
end Go.Proofs.YtmilcknboaefkaaGreatDoor

/- scram.Check. -/
namespace Go.Proofs.YtmilcknboaefkaaGreatDoor
open Go.RowKit Go.Shelf

def recL (x0 x1 x2 : Value) (K V : List Int) : List Value := x0 :: x1 :: x2 :: (ic .u8 K ++ ic .u8 V)
def RcAt (w : World) (g : Nat) (cs : List Value) : Prop := w.heap[g]? = some (.cells cs.toArray 44 (0, 0))
theorem RcAt.lt {w : World} {g : Nat} {cs : List Value} (h : RcAt w g cs) : g < w.heap.size := (Array.getElem?_eq_some_iff.1 h).1
theorem RcAt.below {w w' : World} {g : Nat} {cs : List Value} (h : RcAt w g cs) (hb : Below w.heap.size w w') : RcAt w' g cs := (hb.block g h.lt).trans h
theorem RcAt.cell {w : World} {g : Nat} {cs : List Value} (h : RcAt w g cs) (j : Nat) : w.cell? ⟨g, j, none⟩ = cs[j]? := by
  unfold RcAt at h
  simp [World.cell?, h]
theorem RcAt.st {w : World} {g : Nat} {x0 x1 x2 : Value} {K V : List Int} (h : RcAt w g (recL x0 x1 x2 K V)) : w.rangeAt g 3 (ic .u8 K) := fun j v hv => by
  rw [h.cell]
  have hl : j < (ic .u8 K).length := (List.getElem?_eq_some_iff.1 hv).1
  unfold recL
  rw [show 3 + j = j + 1 + 1 + 1 by omega]
  simp only [List.getElem?_cons_succ]
  rw [List.getElem?_append_left hl]
  exact hv
theorem RcAt.sv {w : World} {g : Nat} {x0 x1 x2 : Value} {K V : List Int} (h : RcAt w g (recL x0 x1 x2 K V)) (hK : K.length = 32) : w.rangeAt g 35 (ic .u8 V) := fun j v hv => by
  rw [h.cell]
  have hl : (ic .u8 K).length = 32 := by rw [ic_len]; exact hK
  unfold recL
  rw [show 35 + j = (32 + j) + 1 + 1 + 1 by omega]
  simp only [List.getElem?_cons_succ]
  rw [List.getElem?_append_right (by omega), hl, show 32 + j - 32 = j by omega]
  exact hv
theorem wp_box_row {P : Program} {ops : Array Oper} {rest : List Oper} {o : Oper} {a : Act} {w : World} {Q : Exit → Act → World → Prop} (hgd : o.guard = none) (ty : TypeId) (x : Operand) (ho : o.op = .box ty x) (cs : List Value)
    (hx : a.eval x = .agg cs.toArray)
    (h : ∀ g w1, w1.heap[g]? = some (.cells cs.toArray ty (0, 0)) → w.heap.size ≤ g → Below w.heap.size w w1 → wpList P ops Q rest (a.put o.dst (.pointer (some ⟨g, 0, none⟩))) w1) : wpList P ops Q (o :: rest) a w :=
  wpList_plain hgd fun K hK => by
    unfold Oper.wp execOp
    simp only [ho, hx, Instr.box, Sem.run_bind, newVar, newRow, Value.cells, run_newObj_alloc, Sem.run_pure, Result.andThen_ok]
    exact hK _ _ (h w.heap.size _ (heap_alloc_new w _) (Nat.le_refl _) ((Below.refl _ _).alloc (Nat.le_refl _) _))
theorem wp_execW {ops : Array Oper} {rest : List Oper} {o : Oper} {a : Act} {w : World} {Q : Exit → Act → World → Prop} (hw : Region.wanted o (yielded ops a.tmps) = true) {v : Value}
    (hr : (execOp a.eval o).run Tryz.prog w = .ok (.value v) w) (h : wpList Tryz.prog ops Q rest (a.put o.dst v) w) : wpList Tryz.prog ops Q (o :: rest) a w := by
  refine Go.BigFrame.wpList_want hw fun _ hK => ?_
  unfold Oper.wp
  rw [hr]
  exact hK _ _ h

def checkE (H B C hd no : Tx) (pf : List Int) (ba : Tx) (K V : List Int) : Tx × Int := if hd = H ∧ fullO C = some no ∧ provesB K B C pf ba = true then ([118, 61] ++ tx (enc (hmac V (il (authT B C ba)))), 0) else ([], 11)

set_option maxHeartbeats 6400000 in
set_option maxRecDepth 100000 in
theorem check_any (x0 x1 x2 : Value) (K V : List Int) (H U F B C hd no ba : Tx) (pf : List Int) (a : Option Addr) (n c : Nat) (w : World) (hKl : K.length = 32) (hKb : Bd K) (hVl : V.length = 32) (hVb : Bd V) (hB : B.length ≤ 2000000) (hC : C.length ≤ 1000000) (hno : no.length ≤ 2000000) (hba : ba.length ≤ 2000000) (hR : Rd w a n c pf) (hK : Kt w) (hM : Mx w) :
    Calls Tryz.prog 17 #[.agg (recL x0 x1 x2 K V).toArray, .agg (fcells ⟨H, U, F, B⟩), .string ⟨C.toArray⟩, .agg (lcells ⟨hd, no, pf, ba⟩ (.slice a n c))] w fun e w' => e = .returned (.tuple #[.string ⟨(checkE H B C hd no pf ba K V).1.toArray⟩, .int .i64 (checkE H B C hd no pf ba K V).2]) ∧ Below w.heap.size w w' := by
  have hi23 := size_of Tryz.u23
  have hi35 : (Tryz.prog.info? 35).map (·.size) = some 4 := by kernel_rfl
  have hi46 : (Tryz.prog.info? 46).map (·.size) = some 4 := by kernel_rfl
  have hnF : ∀ u : World, FAt (u.alloc (.cells #[.string ⟨H.toArray⟩, .string ⟨U.toArray⟩, .string ⟨F.toArray⟩, .string ⟨B.toArray⟩] 35)) u.heap.size (.string ⟨H.toArray⟩) (.string ⟨U.toArray⟩) (.string ⟨F.toArray⟩) (.string ⟨B.toArray⟩) := fun u => heap_alloc_new u _
  have hnL : ∀ u : World, LAt (u.alloc (.cells #[.string ⟨hd.toArray⟩, .string ⟨no.toArray⟩, .slice a n c, .string ⟨ba.toArray⟩] 46)) u.heap.size (.string ⟨hd.toArray⟩) (.string ⟨no.toArray⟩) (.slice a n c) (.string ⟨ba.toArray⟩) := fun u => heap_alloc_new u _
  have HnF : Hid _ := hnF
  have HnL : Hid _ := hnL
  have Hal : Hid (∀ (u : World) (o : Obj), Below u.heap.size u (u.alloc o)) := fun u o => (Below.refl _ _).alloc (Nat.le_refl _) o
  have cA := fun (u : World) (h : Below w.heap.size w u) => asksFor_any C no u hC hno (hM.below h)
  have cP := fun (u : World) (h : Below w.heap.size w u) => proves_any K H U F B C hd no ba pf a n c u hKl hKb hB (by omega) hba (hR.carry (Nat.le_refl _) h) (hK.below (Nat.le_refl _) h)
  have cS := fun (u : World) (h : Below w.heap.size w u) => signature_any V H U F B C ba u hVl hVb hB (by omega) hba (hK.below (Nat.le_refl _) h)
  clear hnF hnL
  unfold fcells lcells
  dsimp only
  by_cases h1 : hd = H
  · subst h1
    by_cases h2 : fullO C = some no
    · rw [show decide (fullO C = some no) = true by simpa using h2] at cA
      by_cases h3 : provesB K B C pf ba = true
      · rw [h3] at cP
        obtain ⟨Z, HZ⟩ := hidE (hmac V (il (authT B C ba)))
        have hZl : Z.length = 32 := by rw [← HZ.out]; exact hmac_len _ _
        have hZb : Bd Z := by rw [← HZ.out]; exact hmac_bd _ _
        rw [HZ.out] at cS
        have hE : checkE hd B C hd no pf ba K V = ([118, 61] ++ tx (enc Z), 0) := by unfold checkE; rw [if_pos ⟨rfl, h2, h3⟩, HZ.out]
        rw [hE]
        dsimp only
        have hel : (tx (enc Z)).length ≤ 100 := by have := enc_len Z; unfold tx; rw [List.length_map]; omega
        have hes := size_tx (tx (enc Z))
        have hA := app_tx [118, 61] (tx (enc Z))
        rw [← hA]
        have cE := fun (u : World) (g : Nat) (h : Rd u (some ⟨g, 0, none⟩) 32 32 Z) => encode_any (some ⟨g, 0, none⟩) 32 32 Z u h (by omega)
        rw [str_tx] at cE
        obtain ⟨T, HT⟩ : ∃ T, Hid ((⟨(tx (enc Z)).toArray⟩ : ByteArray) = T) := ⟨_, rfl⟩
        rw [HT.out] at cE hes ⊢
        clear hE h2 h3 hA
        go_enter Tryz.func17, Tryz.ntmps17
        go_wp2_with (first
    | (refine wp_box_row rfl 44 (.tmp 0) rfl (recL x0 x1 x2 K V) rfl ?_; intro g4 w1 R4 hg4 hb1; have hF0 := HnF.out w1; have hL0 := HnL.out (w1.alloc (.cells #[.string ⟨hd.toArray⟩, .string ⟨U.toArray⟩, .string ⟨F.toArray⟩, .string ⟨B.toArray⟩] 35)); have b2 := Hal.out w1 (.cells #[.string ⟨hd.toArray⟩, .string ⟨U.toArray⟩, .string ⟨F.toArray⟩, .string ⟨B.toArray⟩] 35); have b3 := Hal.out (w1.alloc (.cells #[.string ⟨hd.toArray⟩, .string ⟨U.toArray⟩, .string ⟨F.toArray⟩, .string ⟨B.toArray⟩] 35)) (.cells #[.string ⟨hd.toArray⟩, .string ⟨no.toArray⟩, .slice a n c, .string ⟨ba.toArray⟩] 46); have hF1 := hF0.below b3; have f0 := hF1.c0; have d0 := hL0.c0; have d1 := hL0.c1; have b23 := b2.trans (b3.mono b2.size); have e3 := hb1.trans (b23.mono hb1.size); have R5 := RcAt.below (w := w1) (g := g4) (cs := recL x0 x1 x2 K V) R4 b23)
    | (go_at_call 41; refine (cA _ e3).mono ?_; rintro e w4 ⟨rfl, hb4⟩; have e4 := e3.trans (hb4.mono e3.size); have R6 := R5.below hb4; have hF2 := hF1.below hb4; have hL2 := hL0.below hb4; rw [World.size_alloc] at hL2)
    | (refine wp_execW rfl (exec_load_mid 27 (.tmp 24) rfl g4 3 rfl (ic .u8 K) _ (RcAt.st R6) hi23.1 rfl (by rw [hi23.2, ic_len, hKl])) ?_)
    | (refine wp_execW rfl (exec_load_rowP 35 (.tmp 5) rfl w1.heap.size rfl 35 _ _ hF2 Tryz.underlying35 hi35) ?_)
    | (refine wp_execW rfl (exec_load_rowP 46 (.tmp 7) rfl _ rfl 46 _ _ hL2 Tryz.underlying46 hi46) ?_)
    | (go_at_call 42; refine (cP _ e4).mono ?_; rintro e w5 ⟨rfl, hb5⟩; have e5 := e4.trans (hb5.mono e4.size); have R7 := R6.below hb5; have hF3 := hF2.below hb5; have hL3 := hL2.below hb5; have d3 := hL3.c3; clear R6 hF2 hL2 hb5)
    | (refine wp_execW rfl (exec_load_mid 27 (.tmp 32) rfl g4 35 rfl (ic .u8 V) _ (RcAt.sv R7 hKl) hi23.1 rfl (by rw [hi23.2, ic_len, hVl])) ?_)
    | (refine wp_execW rfl (exec_load_rowP 35 (.tmp 5) rfl w1.heap.size rfl 35 _ _ hF3 Tryz.underlying35 hi35) ?_)
    | (go_at_call 38; refine (cS _ e5).mono ?_; rintro e w6 ⟨rfl, hb6⟩; have e6 := e5.trans (hb6.mono e5.size))
    | (refine wp_alloc_ar rfl 27 rfl .u8 (List.replicate 32 0) 32 Tryz.z23 ?_; intro gZ w7 AZ hgZ hb7; have e7 := e6.trans (hb7.mono e6.size))
    | (refine wp_store_ar rfl 27 (.tmp 10) (.tmp 38) rfl gZ rfl .u8 Z rfl 27 _ AZ (by rw [hZl]; rfl) (by rw [hZl]; exact hi23.2) ?_; intro w8 AZ8 hk8 hs8; clear hs8; have e8 : Below w.heap.size w w8 := e7.trans (hk8.below e7.size (fun q hq => by have := e6.size; omega)); have RZ : Rd w8 (some ⟨gZ, 0, none⟩) 32 32 Z := by (have := rd_row AZ8 hZb (by rw [hZl]; unfold maxLen; omega); rw [hZl] at this; exact this))
    | (go_at_call 23; refine (cE _ gZ RZ).mono ?_; rintro e w9 ⟨rfl, hb9⟩; have e9 := e8.trans (hb9.mono e8.size)))
        go_ret2
        exact ⟨rfl, e9⟩
      · have h3' : provesB K B C pf ba = false := by simpa using h3
        rw [h3'] at cP
        have hE : checkE hd B C hd no pf ba K V = ([], 11) := by unfold checkE; rw [if_neg (fun h => h3 h.2.2)]
        rw [hE]
        dsimp only
        clear hE h2 h3 h3'
        go_enter Tryz.func17, Tryz.ntmps17
        go_wp2_with (first
    | (refine wp_box_row rfl 44 (.tmp 0) rfl (recL x0 x1 x2 K V) rfl ?_; intro g4 w1 R4 hg4 hb1; have hF0 := HnF.out w1; have hL0 := HnL.out (w1.alloc (.cells #[.string ⟨hd.toArray⟩, .string ⟨U.toArray⟩, .string ⟨F.toArray⟩, .string ⟨B.toArray⟩] 35)); have b2 := Hal.out w1 (.cells #[.string ⟨hd.toArray⟩, .string ⟨U.toArray⟩, .string ⟨F.toArray⟩, .string ⟨B.toArray⟩] 35); have b3 := Hal.out (w1.alloc (.cells #[.string ⟨hd.toArray⟩, .string ⟨U.toArray⟩, .string ⟨F.toArray⟩, .string ⟨B.toArray⟩] 35)) (.cells #[.string ⟨hd.toArray⟩, .string ⟨no.toArray⟩, .slice a n c, .string ⟨ba.toArray⟩] 46); have hF1 := hF0.below b3; have f0 := hF1.c0; have d0 := hL0.c0; have d1 := hL0.c1; have b23 := b2.trans (b3.mono b2.size); have e3 := hb1.trans (b23.mono hb1.size); have R5 := RcAt.below (w := w1) (g := g4) (cs := recL x0 x1 x2 K V) R4 b23)
    | (go_at_call 41; refine (cA _ e3).mono ?_; rintro e w4 ⟨rfl, hb4⟩; have e4 := e3.trans (hb4.mono e3.size); have R6 := R5.below hb4; have hF2 := hF1.below hb4; have hL2 := hL0.below hb4; rw [World.size_alloc] at hL2)
    | (refine wp_execW rfl (exec_load_mid 27 (.tmp 24) rfl g4 3 rfl (ic .u8 K) _ (RcAt.st R6) hi23.1 rfl (by rw [hi23.2, ic_len, hKl])) ?_)
    | (refine wp_execW rfl (exec_load_rowP 35 (.tmp 5) rfl w1.heap.size rfl 35 _ _ hF2 Tryz.underlying35 hi35) ?_)
    | (refine wp_execW rfl (exec_load_rowP 46 (.tmp 7) rfl _ rfl 46 _ _ hL2 Tryz.underlying46 hi46) ?_)
    | (go_at_call 42; refine (cP _ e4).mono ?_; rintro e w5 ⟨rfl, hb5⟩; have e5 := e4.trans (hb5.mono e4.size)))
        go_ret2
        exact ⟨rfl, e5⟩
    · rw [show decide (fullO C = some no) = false by simpa using h2] at cA
      have hE : checkE hd B C hd no pf ba K V = ([], 11) := by unfold checkE; rw [if_neg (fun h => h2 h.2.1)]
      rw [hE]
      dsimp only
      clear hE h2
      go_enter Tryz.func17, Tryz.ntmps17
      go_wp2_with (first
    | (refine wp_box_row rfl 44 (.tmp 0) rfl (recL x0 x1 x2 K V) rfl ?_; intro g4 w1 R4 hg4 hb1; have hF0 := HnF.out w1; have hL0 := HnL.out (w1.alloc (.cells #[.string ⟨hd.toArray⟩, .string ⟨U.toArray⟩, .string ⟨F.toArray⟩, .string ⟨B.toArray⟩] 35)); have b2 := Hal.out w1 (.cells #[.string ⟨hd.toArray⟩, .string ⟨U.toArray⟩, .string ⟨F.toArray⟩, .string ⟨B.toArray⟩] 35); have b3 := Hal.out (w1.alloc (.cells #[.string ⟨hd.toArray⟩, .string ⟨U.toArray⟩, .string ⟨F.toArray⟩, .string ⟨B.toArray⟩] 35)) (.cells #[.string ⟨hd.toArray⟩, .string ⟨no.toArray⟩, .slice a n c, .string ⟨ba.toArray⟩] 46); have hF1 := hF0.below b3; have f0 := hF1.c0; have d0 := hL0.c0; have d1 := hL0.c1; have b23 := b2.trans (b3.mono b2.size); have e3 := hb1.trans (b23.mono hb1.size); have R5 := RcAt.below (w := w1) (g := g4) (cs := recL x0 x1 x2 K V) R4 b23)
    | (go_at_call 41; refine (cA _ e3).mono ?_; rintro e w4 ⟨rfl, hb4⟩; have e4 := e3.trans (hb4.mono e3.size)))
      go_ret2
      exact ⟨rfl, e4⟩
  · have hE : checkE H B C hd no pf ba K V = ([], 11) := by unfold checkE; rw [if_neg (fun h => h1 h.1)]
    rw [hE]
    dsimp only
    have hne : (hd == H) = false := by simpa using h1
    clear hE h1
    go_enter Tryz.func17, Tryz.ntmps17
    go_wp2_with (first
    | (refine wp_box_row rfl 44 (.tmp 0) rfl (recL x0 x1 x2 K V) rfl ?_; intro g4 w1 R4 hg4 hb1; have hF0 := HnF.out w1; have hL0 := HnL.out (w1.alloc (.cells #[.string ⟨H.toArray⟩, .string ⟨U.toArray⟩, .string ⟨F.toArray⟩, .string ⟨B.toArray⟩] 35)); have b2 := Hal.out w1 (.cells #[.string ⟨H.toArray⟩, .string ⟨U.toArray⟩, .string ⟨F.toArray⟩, .string ⟨B.toArray⟩] 35); have b3 := Hal.out (w1.alloc (.cells #[.string ⟨H.toArray⟩, .string ⟨U.toArray⟩, .string ⟨F.toArray⟩, .string ⟨B.toArray⟩] 35)) (.cells #[.string ⟨hd.toArray⟩, .string ⟨no.toArray⟩, .slice a n c, .string ⟨ba.toArray⟩] 46); have hF1 := hF0.below b3; have f0 := hF1.c0; have d0 := hL0.c0; have d1 := hL0.c1; have b23 := b2.trans (b3.mono b2.size); have e3 := hb1.trans (b23.mono hb1.size); have R5 := RcAt.below (w := w1) (g := g4) (cs := recL x0 x1 x2 K V) R4 b23)
      | fail)
    go_ret2
    exact ⟨rfl, e3⟩
end Go.Proofs.YtmilcknboaefkaaGreatDoor
