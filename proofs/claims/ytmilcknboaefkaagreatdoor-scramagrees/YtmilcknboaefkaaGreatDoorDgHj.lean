/- The document's Hi. -/
import Derived.Test.YtmilcknboaefkaaGreatDoorDgU
import Derived.Test.YtmilcknboaefkaaGreatDoorDgHi
set_option maxRecDepth 100000
namespace Go.Proofs.YtmilcknboaefkaaGreatDoor
open Go.RowKit

theorem bd_0001 : Bd [0, 0, 0, 1] := fun x hx => by simp at hx; omega

set_option maxRecDepth 100000 in
set_option maxHeartbeats 1600000 in
theorem refHi_any (a : Option Addr) (n c : Nat) (ks : List Int) (a' : Option Addr) (n' c' : Nat) (ss : List Int) (N : Nat) (w : World) (hR : Rd w a n c ks) (hn : n ≤ 10000) (hR' : Rd w a' n' c' ss) (hn' : n' ≤ 10000) (hN1 : 1 ≤ N) (hN2 : N ≤ 4096) :
    Calls Tryz.prog 28 #[.slice a n c, .slice a' n' c', .int .i64 (N : Int)] w fun e w' => e = .returned (.tuple #[.agg (ic .u8 (sumK ks ss (N - 1))).toArray, .int .i64 0]) ∧ Below w.heap.size w w' := by
  have hi23 := (size_of Tryz.u23).2
  have hc1 : ¬ (N : Int) < 1 := by omega
  have hc2 : ¬ (4096 : Int) < (N : Int) := by omega
  obtain ⟨U0, HU0⟩ := hidE (hmac ks (ss ++ [0, 0, 0, 1]))
  have hul : U0.length = 32 := by rw [← HU0.out]; exact hmac_len _ _
  have t1 : True := trivial
  have t2 : True := trivial
  have t3 : True := trivial
  go_enter Tryz.func28, Tryz.ntmps28
  go_wp2_with (first
    | (clear t1; refine wp_alloc_ar rfl 27 rfl .u8 (List.replicate 32 0) 32 Tryz.z23 ?_; intro g6 w1 A6 hg6 hb1)
    | (at_builtin; refine is_app _ _ rfl ?_; clear t2; refine wp_app0K rfl _ _ rfl rfl a' n' c' ss rfl (hR'.carry (Nat.le_refl _) hb1) (by omega) ?_; intro v2 w2 ho2 hb2 hv2; clear hv2)
    | (at_builtin; refine is_app _ _ rfl ?_; have hq2 := ho2; refine wp_appK rfl (.tmp 21) (.tmp 22) rfl w1.heap.size v2 n' ss rfl (ho2.alloc _) _ 4 4 [0, 0, 0, 1] rfl (rd_0001 _) (by omega) (by rw [World.size_alloc]; have := hb2.size; omega) ?_; intro v3 w3 ho3 hg3 hv3; have hb3 : Below w1.heap.size w2 w3 := below_step (Below.refl _ _) hb2.size ho2 hg3; obtain ⟨a3, c3, rfl, hr3⟩ := Rd.ofOwn ho3 (hR'.bytes.append bd_0001); have b3 := hb2.trans hb3; have e3 := hb1.trans (b3.mono hb1.size); clear hv3 hg3)
    | (go_at_call 29; refine (refHmac_any a n c ks a3 (n' + 4) c3 (ss ++ [0, 0, 0, 1]) _ (hR.carry (Nat.le_refl _) e3) (by omega) hr3 (by omega)).mono ?_; rintro e w4 ⟨rfl, hb4⟩; rw [HU0.out]; have e4 := e3.trans (hb4.mono e3.size))
    | (clear t3; refine wp_alloc_ar rfl 27 rfl .u8 (List.replicate 32 0) 32 Tryz.z23 ?_; intro g8 w5 A8 hg8 hb5; have e5 := e4.trans (hb5.mono e4.size))
    | (refine wp_store_ar rfl 27 (.tmp 8) (.tmp 24) rfl g8 rfl .u8 U0 rfl 27 _ A8 (by rw [hul]; rfl) (by rw [hul]; exact hi23) ?_; intro w6 A8' hk6 hs6; clear hs6; have e6 : Below w.heap.size w w6 := e5.trans (hk6.below e5.size (fun q hq => by have := e4.size; omega)))
    | (refine wp_load_ar rfl 27 (.tmp 8) rfl g8 rfl 27 .u8 U0 5 32 A8' Tryz.u23 hul ?_)
    | (refine wp_alloc_ar rfl 27 rfl .u8 (List.replicate 32 0) 32 Tryz.z23 ?_; intro g9 w7 A9 hg9 hb7; have e7 := e6.trans (hb7.mono e6.size))
    | (refine wp_store_ar rfl 27 (.tmp 9) (.tmp 25) rfl g9 rfl .u8 U0 rfl 27 _ A9 (by rw [hul]; rfl) (by rw [hul]; exact hi23) ?_; intro w8 A9' hk8 hs8; clear hs8; have e8 : Below w.heap.size w w8 := e7.trans (hk8.below e7.size (fun q hq => by have := e6.size; omega))))
  have l6 := A6.lt
  have l8 := A8'.lt
  have k8 := A8.lt
  have s3 := b3.size
  have s4 := hb4.size
  have s5 := hb5.size
  have s6 := hk6.size
  have s7 := hb7.size
  have s1 := hb1.size
  have hG : w.heap.size ≤ g6 ∧ w.heap.size ≤ g8 ∧ w.heap.size ≤ g9 ∧ ¬ g6 = g8 ∧ ¬ g6 = g9 ∧ ¬ g8 = g9 := by omega
  have B6 : Ar w8 g6 27 .u8 (List.replicate 32 0) := (((((A6.below b3 l6).below hb4 (by omega)).below hb5 (by omega)).keep hk6 hG.2.2.2.1).below hb7 (by omega)).keep hk8 hG.2.2.2.2.1
  have B8 : Ar w8 g8 27 .u8 U0 := (A8'.below hb7 l8).keep hk8 hG.2.2.2.2.2
  have HG : Hid (w.heap.size ≤ g6 ∧ w.heap.size ≤ g8 ∧ w.heap.size ≤ g9 ∧ ¬ g6 = g8 ∧ ¬ g6 = g9 ∧ ¬ g8 = g9) := hG
  clear s1 s3 s4 s5 s6 s7 l6 l8 k8 hk8 hb7 hk6 hb5 hb4 b3 hb3 hb2 hb1 A6 A8 A9 A8' e3 e4 e5 e6 e7 ho2 ho3 hr3 hG hg6 hg8 hg9
  go_loopw [10] (fun i wr => ∃ k : Nat, k + 1 ≤ N ∧ i = .int .i64 ((k + 1 : Nat) : Int) ∧ Ar wr g6 27 .u8 (List.replicate 32 0) ∧ Ar wr g8 27 .u8 (uK ks ss k) ∧ Ar wr g9 27 .u8 (sumK ks ss k) ∧ Below w.heap.size w wr) (fun i _ => 4096 - (intOf i).toNat)
  case atStart => exact ⟨0, hN1, rfl, B6, by unfold uK; rw [HU0.out]; exact B8, by unfold sumK uK; rw [HU0.out]; exact A9', e8⟩
  case round =>
    clear B6 B8 A9' e8
    obtain ⟨k, hk, rfl, B6, B8, B9, ek⟩ := hrel
    obtain ⟨m, HMM⟩ : ∃ m, Hid (k + 1 = m) := ⟨_, rfl⟩
    have hlu := uK_len ks ss k
    have hls := sumK_len ks ss k
    have hbu := uK_bd ks ss k
    rw [HMM.out] at hk ⊢
    by_cases hkN : m < N
    · have hkz : (m : Int) < (N : Int) := by omega
      obtain ⟨U, HU⟩ : ∃ U, Hid (uK ks ss k = U) := ⟨_, rfl⟩
      obtain ⟨S, HS⟩ : ∃ U, Hid (sumK ks ss k = U) := ⟨_, rfl⟩
      rw [HU.out] at B8 hlu hbu
      rw [HS.out] at B9 hls
      obtain ⟨V, HV⟩ : ∃ V, Hid (hmac ks U = V) := ⟨_, rfl⟩
      have hlv : V.length = 32 := by rw [← HV.out]; exact hmac_len _ _
      have hlx : (xb S V 32).length = 32 := by rw [xb_len]; exact hls
      obtain ⟨T, HT⟩ : ∃ T, Hid (xb S V 32 = T) := ⟨_, rfl⟩
      rw [HT.out] at hlx
      have hrU := rd_row B8 hbu (by rw [hlu]; unfold maxLen; omega)
      rw [hlu] at hrU
      go_wp2_with (first
        | (go_at_call 29; refine (refHmac_any a n c ks _ 32 32 U _ (hR.carry (Nat.le_refl _) ek) (by omega) hrU (by omega)).mono ?_; rintro e x1 ⟨rfl, hb1⟩; rw [HV.out]; have f1 := ek.trans (hb1.mono ek.size))
        | (refine wp_store_ar rfl 27 (.tmp 8) (.tmp 33) rfl g8 rfl .u8 V rfl 27 _ (B8.below hb1 B8.lt) (by rw [hlu, hlv]) (by rw [hlv]; exact hi23) ?_; intro x2 C8 hk2 hs2; clear hs2; have f2 : Below w.heap.size w x2 := f1.trans (hk2.below f1.size (fun q hq => by have := HG.out; omega)); have C9 : Ar x2 g9 27 .u8 S := (B9.below hb1 B9.lt).keep hk2 (fun e => HG.out.2.2.2.2.2 e.symm); have C6 : Ar x2 g6 27 .u8 (List.replicate 32 0) := (B6.below hb1 B6.lt).keep hk2 HG.out.2.2.2.1)
        | (refine wp_load_ar rfl 27 (.tmp 9) rfl g9 rfl 27 .u8 S 5 32 C9 Tryz.u23 hls ?_)
        | (refine wp_load_ar rfl 27 (.tmp 8) rfl g8 rfl 27 .u8 V 5 32 C8 Tryz.u23 hlv ?_)
        | (go_at_call 40; refine (refXor_any S V _ hls hlv).mono ?_; rintro e x3 ⟨rfl, hb3⟩; rw [HT.out]; have f3 := f2.trans (hb3.mono f2.size))
        | (refine wp_store_ar rfl 27 (.tmp 9) (.tmp 36) rfl g9 rfl .u8 T rfl 27 _ (C9.below hb3 C9.lt) (by rw [hls, hlx]) (by rw [hlx]; exact hi23) ?_; intro x4 D9 hk4 hs4; clear hs4; have f4 : Below w.heap.size w x4 := f3.trans (hk4.below f3.size (fun q hq => by have := HG.out; omega)); have D8 : Ar x4 g8 27 .u8 V := (C8.below hb3 C8.lt).keep hk4 HG.out.2.2.2.2.2; have D6 : Ar x4 g6 27 .u8 (List.replicate 32 0) := (C6.below hb3 C6.lt).keep hk4 HG.out.2.2.2.2.1))
      go_roundw
      case rel => exact ⟨k + 1, by rw [HMM.out]; omega, by rw [HMM.out]; go_num, D6, by unfold uK; rw [HU.out, HV.out]; exact D8, by unfold sumK uK; rw [HU.out, HV.out, HS.out, HT.out]; exact D9, f4⟩
      case measure => simp [intOf]; omega
    · have hmN : m = N := by omega
      have hkz : ¬ (m : Int) < (N : Int) := by omega
      have HKN : Hid (N - 1 = k) := by have := HMM.out; show _ = _; omega
      go_wp2_with (first
        | (refine wp_load_ar rfl 27 (.tmp 9) rfl g9 rfl 27 .u8 (sumK ks ss k) 5 32 B9 Tryz.u23 hls ?_)
        | (refine wp_store_ar rfl 27 (.tmp 6) (.tmp 37) rfl g6 rfl .u8 (sumK ks ss k) rfl 27 _ B6 (by rw [hls]; rfl) (by rw [hls]; exact hi23) ?_; intro x4 v4 hk4 hs4; clear hs4))
      rw [HKN.out]
      exact bodyPost_ret (results_hi rfl _ _ g6 27 .u8 (sumK ks ss k) 5 32 _ rfl rfl v4 Tryz.u23 hls) rfl ⟨rfl, ek.trans (hk4.below ek.size (fun q hq => by have := HG.out; omega))⟩
end Go.Proofs.YtmilcknboaefkaaGreatDoor
