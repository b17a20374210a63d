/- The document's Hmac. -/
import Derived.Test.YtmilcknboaefkaaGreatDoorDgS
import Derived.Test.YtmilcknboaefkaaGreatDoorDgT
set_option maxRecDepth 100000
namespace Go.Proofs.YtmilcknboaefkaaGreatDoor
open Go.RowKit

theorem own_belT {w w' : World} {B e size n : Nat} {v : Value} {xs : List Value} (h : w.ownsRow B e size v n xs) (hb : Below w.heap.size w w') : w'.ownsRow B e size v n xs := by
  obtain ⟨h1, h2⟩ := h
  refine ⟨h1, ?_⟩
  rcases h2 with h2 | ⟨g, cap, cur, he, hg, hc, h3⟩
  · exact .inl h2
  · refine .inr ⟨g, cap, cur, he, hg, ?_, h3⟩
    rw [hb.block g (by have := (Array.getElem?_eq_some_iff.1 hc).1; exact this)]
    exact hc

theorem is_app {P : Program} {ops : Array Oper} {rest : List Oper} {o : Oper} {a : Act} {w : World} {Q : Exit → Act → World → Prop} (args : Array Operand) (tys : Array TypeId) (_ : o.op = .call { callee := .builtin .append, args := args, argTypes := tys }) (h : wpList P ops Q (o :: rest) a w) : wpList P ops Q (o :: rest) a w := h
theorem dj_symm {u v : Value} (h : u.ownBlock = none ∨ u.ownBlock ≠ v.ownBlock) : v.ownBlock = none ∨ v.ownBlock ≠ u.ownBlock := by
  rcases h with h | h
  · cases hv : v.ownBlock with
    | none => exact .inl rfl
    | some q => exact .inr (by rw [h]; exact fun e => by cases e)
  · exact .inr (fun e => h e.symm)

set_option maxRecDepth 100000 in
set_option maxHeartbeats 6400000 in
theorem refHmac_any (a : Option Addr) (n c : Nat) (ks : List Int) (a' : Option Addr) (n' c' : Nat) (xs : List Int) (w : World) (hR : Rd w a n c ks) (hn : n ≤ 100000) (hR' : Rd w a' n' c' xs) (hn' : n' ≤ 100000) :
    Calls Tryz.prog 29 #[.slice a n c, .slice a' n' c'] w fun e w' => e = .returned (.agg (ic .u8 (hmac ks xs)).toArray) ∧ Below w.heap.size w w' := by
  have HL : Hid (ks.length = n) := hR.len
  have hbx := hR.bytes
  have t0 : True := trivial
  have t1 : True := trivial
  have t2 : True := trivial
  by_cases h64 : 64 < n
  · have h64z : (64 : Int) < (n : Int) := by omega
    obtain ⟨y, HY⟩ : ∃ y, Hid (sha ks = y) := ⟨_, rfl⟩
    have hyl : y.length = 32 := by rw [← HY.out]; exact shaB_len _ _ _
    have hbY : Bd y := by rw [← HY.out]; exact shaB_bd _ _ _
    have hi23 := (size_of Tryz.u23).2
    go_enter Tryz.func29, Tryz.ntmps29
    go_wp2_with (first
      | (refine wp_alloc_ar rfl 27 rfl .u8 (List.replicate 32 0) 32 Tryz.z23 ?_; clear t0; intro g4 w1 A41 hg41 hb1)
      | (at_builtin; refine is_app _ _ rfl ?_; clear t1; refine wp_app0K rfl _ _ rfl rfl a n c ks rfl (hR.carry (Nat.le_refl _) hb1) (by omega) ?_; intro v2 w2 ho2 hb2 hv2; obtain ⟨a2, c2, rfl, hr2⟩ := Rd.ofOwn ho2 hbx; have e2 := hb1.trans (hb2.mono hb1.size))
      | (go_at_call 30; refine (refSha_any a2 n c2 ks _ hr2 (by omega)).mono ?_; rintro e w3 ⟨rfl, hb3⟩; rw [HY.out]; have e3 := e2.trans (hb3.mono e2.size))
      | (clear t2; refine wp_alloc_ar rfl 27 rfl .u8 (List.replicate 32 0) 32 Tryz.z23 ?_; intro g6 w4 A6 hg6 hb4; have e4 := e3.trans (hb4.mono e3.size))
      | (refine wp_store_ar rfl 27 (.tmp 6) (.tmp 18) rfl g6 rfl .u8 y rfl 27 _ A6 (by rw [hyl]; rfl) (by rw [hyl]; exact hi23) ?_; intro w6 A6' hk6 hs6; clear hs6; have e6 : Below w.heap.size w w6 := e4.trans (hk6.below e4.size (fun q hq => by have := e3.size; omega)); have hr6 := rd_row A6' hbY (by rw [hyl]; unfold maxLen; omega); rw [hyl] at hr6)
      | (at_builtin; refine is_app _ _ rfl ?_; have hq6 := hr6; refine wp_app0K rfl _ _ rfl rfl _ 32 32 y rfl hr6 (by omega) ?_; intro v7 w5 hO hb7 hv7; obtain ⟨a5, c5, rfl, hr7⟩ := Rd.ofOwn hO hbY))
    obtain ⟨b5, HB5⟩ : ∃ b, Hid (w6.heap.size = b) := ⟨_, rfl⟩
    have e5 : Below w.heap.size w w5 := e6.trans (hb7.mono e6.size)
    have l4 := A41.lt
    have s2 := hb2.size
    have s3 := hb3.size
    have s4 := hb4.size
    have s6 := hk6.size
    have hg4 : g4 < b5 := by rw [← HB5.out]; omega
    have A4 : Ar w5 g4 27 .u8 (List.replicate 32 0) := ((((A41.below hb2 l4).below hb3 (by omega)).below hb4 (by omega)).keep hk6 (by omega)).below hb7 (by omega)
    have hwb : w.heap.size ≤ b5 := by rw [← HB5.out]; exact e6.size
    have hb5w : b5 ≤ w5.heap.size := by rw [← HB5.out]; exact hb7.size
    have HM : Hid (kroom ks = y ++ List.replicate (64 - 32) 0) := by
      show ov _ (if 64 < ks.length then sha ks else ks) = _
      rw [HL.out, if_pos h64, HY.out, kroom_eq y (by omega), hyl]
    have hY : 32 ≤ 64 := by omega
    rw [HB5.out] at hO
    clear hb7 HB5 A6' hk6 e6 hr6 hb4 e4 A6 hg6 e3 hb3 e2 hb2 hr2 ho2 hr7 A41 hb1 hv2 hv7 s2 s3 s4 s6 l4
    have hO5 := hO
    go_loopw [5] (fun sl wr => ∃ (j : Nat) (a6 : Option Addr) (n6 c6 : Nat), sl = .slice a6 n6 c6 ∧ Hid (n6 = 32 + j) ∧ n6 ≤ 64 ∧ wr.ownsRow b5 5 1 (.slice a6 n6 c6) n6 (bc (y ++ List.replicate j 0)) ∧ Below b5 w5 wr) (fun sl _ => 64 - lenV sl)
    case atStart => exact ⟨0, a5, 32, c5, rfl, rfl, hY, by simpa using hO, Below.refl _ _⟩
    case round =>
      clear hO hO5
      obtain ⟨j, a6, n6, c6, rfl, HN, hn6, hown, hb⟩ := hrel
      by_cases h6 : n6 < 64
      · have h6z : (n6 : Int) < 64 := by omega
        have HB : Hid (Below b5 w5 wr) := hb
        clear hb
        go_wp2_with (at_builtin; refine is_app _ _ rfl ?_; refine wp_app1K rfl (.tmp 25) (.tmp 26) rfl b5 _ n6 (y ++ List.replicate j 0) rfl hown 0 (by omega) (by omega) rfl (by omega) (by have := HB.out.size; omega) ?_; intro v3 w3 ho3 hb3)
        rw [List.append_assoc, ← List.replicate_succ'] at ho3
        obtain ⟨a7, c7, rfl, _⟩ := Rd.ofOwn ho3 (hbY.append (bd_zeros (j + 1)))
        go_roundw
        case rel => exact ⟨j + 1, a7, n6 + 1, c7, rfl, (by have := HN.out; show _ = _; omega), by omega, ho3, HB.out.trans hb3⟩
        case measure => simp only [lenV]; omega
      · obtain rfl : n6 = 64 := by omega
        have h6z : ¬ ((64 : Nat) : Int) < 64 := by omega
        have hjj : j = 64 - 32 := by have := HN.out; omega
        obtain ⟨K, HKK⟩ : ∃ K, Hid (kroom ks = K) := ⟨_, rfl⟩
        have hbk : Bd (y ++ List.replicate j 0) := hbY.append (bd_zeros j)
        rw [hjj, ← HM.out, HKK.out] at hown hbk
        have HKL : K.length = 64 := by rw [← HKK.out]; exact kroom_len ks
        obtain ⟨gK, rfl⟩ : ∃ g, a6 = some ⟨g, 0, none⟩ := by
          rcases hown.2 with ⟨_, h⟩ | ⟨g, _, _, h, _⟩
          · cases h
          · injection h with h1 h2 h3; exact ⟨g, h1⟩
        have hrK : Rd wr (some ⟨gK, 0, none⟩) 64 c6 K := by
          obtain ⟨q1, q2, he, h⟩ := Rd.ofOwn hown hbk
          injection he with h1 h2 h3
          subst h1; subst h3; exact h
        have HB : Hid (Below b5 w5 wr) := hb
        obtain ⟨w8, HW8⟩ : ∃ w8, Hid (wr = w8) := ⟨_, rfl⟩
        rw [HW8.out] at hrK HB ⊢
        have hl54 : (pb K 54 64).length = 64 := by rw [pb_len]; exact HKL
        have hl92 : (pb K 92 64).length = 64 := by rw [pb_len]; exact HKL
        have hb54 := pb_bd K 54 hbk 64
        have hb92 := pb_bd K 92 hbk 64
        have hg54 : ∀ i, i < 64 → (pb K 54 64).getD i 0 = bits .xor .u8 (K.getD i 0) 54 := fun i hi => by rw [pb_get K 54 64 i (by omega), if_pos hi]
        have hg92 : ∀ i, i < 64 → (pb K 92 64).getD i 0 = bits .xor .u8 (K.getD i 0) 92 := fun i hi => by rw [pb_get K 92 64 i (by omega), if_pos hi]
        obtain ⟨P1, HP1⟩ : ∃ P, Hid (pb K 54 64 = P) := ⟨_, rfl⟩
        obtain ⟨P2, HP2⟩ : ∃ P, Hid (pb K 92 64 = P) := ⟨_, rfl⟩
        rw [HP1.out] at hl54 hb54 hg54
        rw [HP2.out] at hl92 hb92 hg92
        have HG1 : Hid (∀ i, i < 64 → P1.getD i 0 = bits .xor .u8 (K.getD i 0) 54) := hg54
        have HG2 : Hid (∀ i, i < 64 → P2.getD i 0 = bits .xor .u8 (K.getD i 0) 92) := hg92
        have HE : Hid (sha (P2 ++ sha (P1 ++ xs)) = hmac ks xs) := by
          show _ = _
          rw [sha_block P1 xs hl54, sha_block P2 _ hl92, ← HP1.out, ← HP2.out, ← HKK.out]
          rfl
        clear hg54 hg92 hown hb hjj
        go_wp2_with fail
        go_loopw [7, 8, 9] (fun vi vo i wr => ∃ k : Nat, k ≤ 64 ∧ i = .int .i64 k ∧ wr.ownsRow w8.heap.size 5 1 vi k (bc (P1.take k)) ∧ wr.ownsRow w8.heap.size 5 1 vo k (bc (P2.take k)) ∧ (vo.ownBlock = none ∨ vo.ownBlock ≠ vi.ownBlock) ∧ Below w8.heap.size w8 wr) (fun _ _ i _ => 64 - (intOf i).toNat)
        case atStart => exact ⟨0, by omega, rfl, World.ownsRow_nil _ _ _ _, World.ownsRow_nil _ _ _ _, .inl rfl, Below.refl _ _⟩
        case round =>
          obtain ⟨k, hk, rfl, hI, hO, hd, hb⟩ := hrel
          by_cases h64 : k < 64
          · have hkz : (k : Int) < 64 := by omega
            have cK := fun (W : World) (hW : Below w8.heap.size w8 W) => (hrK.carry (Nat.le_refl _) hW).cells _ rfl k h64
            rw [add_flat, Nat.zero_add] at cK
            obtain ⟨z, HZ⟩ : ∃ z, Hid (K.getD k 0 = z) := ⟨_, rfl⟩
            rw [HZ.out] at cK
            have ck0 := cK _ hb
            have x1 := bits8 .xor z 54
            have x2 := bits8 .xor z 92
            have hs1 := take_snocI P1 k (by omega)
            have hs2 := take_snocI P2 k (by omega)
            rw [HG1.out k h64, HZ.out] at hs1
            rw [HG2.out k h64, HZ.out] at hs2
            have HS1 : Hid (P1.take (k + 1) = P1.take k ++ [bits .xor .u8 z 54]) := hs1
            have HS2 : Hid (P2.take (k + 1) = P2.take k ++ [bits .xor .u8 z 92]) := hs2
            have t3 : True := trivial
            clear hs1 hs2
            go_wp2_with (first
              | (at_builtin; clear t3; refine wp_appD rfl (.tmp 32) (.tmp 38) rfl w8.heap.size _ k (P1.take k) rfl (hI.alloc _) _ 1 1 [bits .xor .u8 z 54] rfl (rd_one _ _ x1.1 x1.2) (by omega) (by rw [World.size_alloc]; have := hb.size; omega) _ k (P2.take k) (hO.alloc _) hd ?_; intro vj wj hIj hOj hdj hbj; have hbj2 := (hb.alloc hb.size _).trans hbj; have ckj := cK _ hbj2)
              | (at_builtin; refine wp_appD rfl (.tmp 40) (.tmp 46) rfl w8.heap.size _ k (P2.take k) rfl (hOj.alloc _) _ 1 1 [bits .xor .u8 z 92] rfl (rd_one _ _ x2.1 x2.2) (by omega) (by rw [World.size_alloc]; have := hbj2.size; omega) _ (k + 1) _ (hIj.alloc _) (dj_symm hdj) ?_; intro vl wl hOl hIl hdl hbl))
            rw [← HS1.out] at hIl
            rw [← HS2.out] at hOl
            go_roundw
            case rel => exact ⟨k + 1, by omega, by go_num, hIl, hOl, (dj_symm hdl), (hbj2.alloc hbj2.size _).trans hbl⟩
            case measure => simp [intOf]; omega
          · obtain rfl : k = 64 := by omega
            have hkz : ¬ ((64 : Nat) : Int) < 64 := by omega
            rw [List.take_of_length_le (by omega)] at hI hO
            have e8 : Below w.heap.size w w8 := e5.trans (HB.out.mono (by omega))
            have e9 := e8.trans (hb.mono e8.size)
            have hRx : Rd wr a' n' c' xs := hR'.carry (Nat.le_refl _) e9
            have hZ9 : Ar wr g4 27 .u8 (List.replicate 32 0) := (A4.below HB.out hg4).below hb (by have := HB.out.size; omega)
            have hb8 : b5 ≤ w8.heap.size := by have := HB.out.size; omega
            obtain ⟨S1, HS1⟩ : ∃ S, Hid (sha (P1 ++ xs) = S) := ⟨_, rfl⟩
            have hS1l : S1.length = 32 := by rw [← HS1.out]; exact shaB_len _ _ _
            have hS1b : Bd S1 := by rw [← HS1.out]; exact shaB_bd _ _ _
            rw [HS1.out] at HE
            have hi23 := (size_of Tryz.u23).2
            have hlh : (hmac ks xs).length = 32 := hmac_len _ _
            have t4 : True := trivial
            have t5 : True := trivial
            have t6 : True := trivial
            clear hrK
            go_wp2_with (first
              | (at_builtin; clear t4; refine wp_appD rfl (.tmp 48) (.tmp 49) rfl w8.heap.size _ 64 P1 rfl hI a' n' c' xs rfl hRx (by omega) hb.size _ 64 P2 hO hd ?_; intro vA wA hIA hOA hdA hbA; obtain ⟨aA, cA, rfl, hrA⟩ := Rd.ofOwn hIA (hb54.append hR'.bytes))
              | (go_at_call 30; clear t5; refine (refSha_any aA (64 + n') cA (P1 ++ xs) _ hrA (by omega)).mono ?_; rintro e wB ⟨rfl, hbB⟩; rw [HS1.out]; have hOB := own_belT hOA hbB)
              | (refine wp_alloc_ar rfl 27 rfl .u8 (List.replicate 32 0) 32 Tryz.z23 ?_; intro gC wC AC hgC hbC; have hOC := own_belT hOB hbC)
              | (clear t6; refine wp_store_ar rfl 27 (.tmp 10) (.tmp 51) rfl gC rfl .u8 S1 rfl 27 _ AC (by rw [hS1l]; rfl) (by rw [hS1l]; exact hi23) ?_; intro wD AD hkD hsD; clear hsD; have hOD := own_keep hOC hkD (fun q hq e => by have := (hOB.lt q hq).2; omega); have hbD : Below w8.heap.size wr wD := ((hbA.trans (hbB.mono (by have := hbA.size; have := hb.size; omega))).trans (hbC.mono (by have := hbA.size; have := hb.size; have := hbB.size; omega))).trans (hkD.below (by have := hbA.size; have := hb.size; have := hbB.size; have := hbC.size; omega) (fun q hq => by have := hbA.size; have := hb.size; have := hbB.size; omega)); have hrD := rd_row AD hS1b (by rw [hS1l]; unfold maxLen; omega); rw [hS1l] at hrD)
              | (at_builtin; refine wp_appK rfl (.tmp 52) (.tmp 53) rfl w8.heap.size _ 64 P2 rfl hOD _ 32 32 S1 rfl hrD (by omega) (by have := hbD.size; have := hb.size; omega) ?_; intro vE wE hOE hgE hE3; have hbE : Below w8.heap.size wD wE := (Below.refl _ _).grown hgE (by have := hbD.size; have := hb.size; omega) (fun k hk => (hOD.lt k hk).1); obtain ⟨aE, cE, rfl, hrE⟩ := Rd.ofOwn hOE (hb92.append hS1b))
              | (go_at_call 30; refine (refSha_any aE (64 + 32) cE (P2 ++ S1) _ hrE (by omega)).mono ?_; rintro e wF ⟨rfl, hbF⟩; rw [HE.out]; have hZF : Ar wF g4 27 .u8 (List.replicate 32 0) := ((hZ9.below hbD (by omega)).below hbE (by omega)).below hbF (by have := hbD.size; have := hbE.size; have := hb.size; omega))
              | (refine wp_store_ar rfl 27 (.tmp 4) (.tmp 55) rfl g4 rfl .u8 (hmac ks xs) rfl 27 _ hZF (by rw [hlh]; rfl) (by rw [hlh]; exact hi23) ?_; intro wG AG hkG hsG))
            refine bodyPost_ret (v := .agg (ic .u8 (hmac ks xs)).toArray) (ar_results rfl _ _ g4 27 .u8 (hmac ks xs) 5 32 rfl AG Tryz.u23 hlh) rfl ⟨rfl, ?_⟩
            have f1 := e9.trans (hbD.mono (by omega))
            have f2 := f1.trans (hbE.mono (by omega))
            have f3 := f2.trans (hbF.mono f2.size)
            exact f3.trans (hkG.below f3.size (fun q hq => by omega))
  · have h64z : ¬ (64 : Int) < (n : Int) := by omega
    go_enter Tryz.func29, Tryz.ntmps29
    go_wp2_with (first
      | (refine wp_alloc_ar rfl 27 rfl .u8 (List.replicate 32 0) 32 Tryz.z23 ?_; intro g4 w1 A41 hg41 hb1)
      | (at_builtin; refine is_app _ _ rfl ?_; refine wp_app0K rfl _ _ rfl rfl a n c ks rfl (hR.carry (Nat.le_refl _) hb1) (by omega) ?_; intro v2 w5 hO hb2 hv2; obtain ⟨a5, c5, rfl, hr2⟩ := Rd.ofOwn hO hbx))
    obtain ⟨b5, HB5⟩ : ∃ b, Hid (w1.heap.size = b) := ⟨_, rfl⟩
    have e5 : Below w.heap.size w w5 := hb1.trans (hb2.mono hb1.size)
    have hg4 : g4 < b5 := by rw [← HB5.out]; exact A41.lt
    have A4 : Ar w5 g4 27 .u8 (List.replicate 32 0) := A41.below hb2 A41.lt
    have hwb : w.heap.size ≤ b5 := by rw [← HB5.out]; exact hb1.size
    have hb5w : b5 ≤ w5.heap.size := by rw [← HB5.out]; exact hb2.size
    obtain ⟨y, HY⟩ : ∃ y, Hid (ks = y) := ⟨_, rfl⟩
    have HM : Hid (kroom ks = y ++ List.replicate (64 - n) 0) := by
      show ov _ (if 64 < ks.length then sha ks else ks) = _
      rw [HL.out, if_neg h64, kroom_eq ks (by rw [HL.out]; omega), HL.out, HY.out]
    have hY : n ≤ 64 := by omega
    have hbY : Bd y := by rw [← HY.out]; exact hbx
    rw [HB5.out] at hO
    have hO := HY.out ▸ hO
    clear hb2 HB5 A41 hb1 hv2 hr2
    have hO5 := hO
    go_loopw [5] (fun sl wr => ∃ (j : Nat) (a6 : Option Addr) (n6 c6 : Nat), sl = .slice a6 n6 c6 ∧ Hid (n6 = n + j) ∧ n6 ≤ 64 ∧ wr.ownsRow b5 5 1 (.slice a6 n6 c6) n6 (bc (y ++ List.replicate j 0)) ∧ Below b5 w5 wr) (fun sl _ => 64 - lenV sl)
    case atStart => exact ⟨0, a5, n, c5, rfl, rfl, hY, by simpa using hO, Below.refl _ _⟩
    case round =>
      clear hO hO5
      obtain ⟨j, a6, n6, c6, rfl, HN, hn6, hown, hb⟩ := hrel
      by_cases h6 : n6 < 64
      · have h6z : (n6 : Int) < 64 := by omega
        have HB : Hid (Below b5 w5 wr) := hb
        clear hb
        go_wp2_with (at_builtin; refine is_app _ _ rfl ?_; refine wp_app1K rfl (.tmp 25) (.tmp 26) rfl b5 _ n6 (y ++ List.replicate j 0) rfl hown 0 (by omega) (by omega) rfl (by omega) (by have := HB.out.size; omega) ?_; intro v3 w3 ho3 hb3)
        rw [List.append_assoc, ← List.replicate_succ'] at ho3
        obtain ⟨a7, c7, rfl, _⟩ := Rd.ofOwn ho3 (hbY.append (bd_zeros (j + 1)))
        go_roundw
        case rel => exact ⟨j + 1, a7, n6 + 1, c7, rfl, (by have := HN.out; show _ = _; omega), by omega, ho3, HB.out.trans hb3⟩
        case measure => simp only [lenV]; omega
      · obtain rfl : n6 = 64 := by omega
        have h6z : ¬ ((64 : Nat) : Int) < 64 := by omega
        have hjj : j = 64 - n := by have := HN.out; omega
        obtain ⟨K, HKK⟩ : ∃ K, Hid (kroom ks = K) := ⟨_, rfl⟩
        have hbk : Bd (y ++ List.replicate j 0) := hbY.append (bd_zeros j)
        rw [hjj, ← HM.out, HKK.out] at hown hbk
        have HKL : K.length = 64 := by rw [← HKK.out]; exact kroom_len ks
        obtain ⟨gK, rfl⟩ : ∃ g, a6 = some ⟨g, 0, none⟩ := by
          rcases hown.2 with ⟨_, h⟩ | ⟨g, _, _, h, _⟩
          · cases h
          · injection h with h1 h2 h3; exact ⟨g, h1⟩
        have hrK : Rd wr (some ⟨gK, 0, none⟩) 64 c6 K := by
          obtain ⟨q1, q2, he, h⟩ := Rd.ofOwn hown hbk
          injection he with h1 h2 h3
          subst h1; subst h3; exact h
        have HB : Hid (Below b5 w5 wr) := hb
        obtain ⟨w8, HW8⟩ : ∃ w8, Hid (wr = w8) := ⟨_, rfl⟩
        rw [HW8.out] at hrK HB ⊢
        have hl54 : (pb K 54 64).length = 64 := by rw [pb_len]; exact HKL
        have hl92 : (pb K 92 64).length = 64 := by rw [pb_len]; exact HKL
        have hb54 := pb_bd K 54 hbk 64
        have hb92 := pb_bd K 92 hbk 64
        have hg54 : ∀ i, i < 64 → (pb K 54 64).getD i 0 = bits .xor .u8 (K.getD i 0) 54 := fun i hi => by rw [pb_get K 54 64 i (by omega), if_pos hi]
        have hg92 : ∀ i, i < 64 → (pb K 92 64).getD i 0 = bits .xor .u8 (K.getD i 0) 92 := fun i hi => by rw [pb_get K 92 64 i (by omega), if_pos hi]
        obtain ⟨P1, HP1⟩ : ∃ P, Hid (pb K 54 64 = P) := ⟨_, rfl⟩
        obtain ⟨P2, HP2⟩ : ∃ P, Hid (pb K 92 64 = P) := ⟨_, rfl⟩
        rw [HP1.out] at hl54 hb54 hg54
        rw [HP2.out] at hl92 hb92 hg92
        have HG1 : Hid (∀ i, i < 64 → P1.getD i 0 = bits .xor .u8 (K.getD i 0) 54) := hg54
        have HG2 : Hid (∀ i, i < 64 → P2.getD i 0 = bits .xor .u8 (K.getD i 0) 92) := hg92
        have HE : Hid (sha (P2 ++ sha (P1 ++ xs)) = hmac ks xs) := by
          show _ = _
          rw [sha_block P1 xs hl54, sha_block P2 _ hl92, ← HP1.out, ← HP2.out, ← HKK.out]
          rfl
        clear hg54 hg92 hown hb hjj
        go_wp2_with fail
        go_loopw [7, 8, 9] (fun vi vo i wr => ∃ k : Nat, k ≤ 64 ∧ i = .int .i64 k ∧ wr.ownsRow w8.heap.size 5 1 vi k (bc (P1.take k)) ∧ wr.ownsRow w8.heap.size 5 1 vo k (bc (P2.take k)) ∧ (vo.ownBlock = none ∨ vo.ownBlock ≠ vi.ownBlock) ∧ Below w8.heap.size w8 wr) (fun _ _ i _ => 64 - (intOf i).toNat)
        case atStart => exact ⟨0, by omega, rfl, World.ownsRow_nil _ _ _ _, World.ownsRow_nil _ _ _ _, .inl rfl, Below.refl _ _⟩
        case round =>
          obtain ⟨k, hk, rfl, hI, hO, hd, hb⟩ := hrel
          by_cases h64 : k < 64
          · have hkz : (k : Int) < 64 := by omega
            have cK := fun (W : World) (hW : Below w8.heap.size w8 W) => (hrK.carry (Nat.le_refl _) hW).cells _ rfl k h64
            rw [add_flat, Nat.zero_add] at cK
            obtain ⟨z, HZ⟩ : ∃ z, Hid (K.getD k 0 = z) := ⟨_, rfl⟩
            rw [HZ.out] at cK
            have ck0 := cK _ hb
            have x1 := bits8 .xor z 54
            have x2 := bits8 .xor z 92
            have hs1 := take_snocI P1 k (by omega)
            have hs2 := take_snocI P2 k (by omega)
            rw [HG1.out k h64, HZ.out] at hs1
            rw [HG2.out k h64, HZ.out] at hs2
            have HS1 : Hid (P1.take (k + 1) = P1.take k ++ [bits .xor .u8 z 54]) := hs1
            have HS2 : Hid (P2.take (k + 1) = P2.take k ++ [bits .xor .u8 z 92]) := hs2
            have t3 : True := trivial
            clear hs1 hs2
            go_wp2_with (first
              | (at_builtin; clear t3; refine wp_appD rfl (.tmp 32) (.tmp 38) rfl w8.heap.size _ k (P1.take k) rfl (hI.alloc _) _ 1 1 [bits .xor .u8 z 54] rfl (rd_one _ _ x1.1 x1.2) (by omega) (by rw [World.size_alloc]; have := hb.size; omega) _ k (P2.take k) (hO.alloc _) hd ?_; intro vj wj hIj hOj hdj hbj; have hbj2 := (hb.alloc hb.size _).trans hbj; have ckj := cK _ hbj2)
              | (at_builtin; refine wp_appD rfl (.tmp 40) (.tmp 46) rfl w8.heap.size _ k (P2.take k) rfl (hOj.alloc _) _ 1 1 [bits .xor .u8 z 92] rfl (rd_one _ _ x2.1 x2.2) (by omega) (by rw [World.size_alloc]; have := hbj2.size; omega) _ (k + 1) _ (hIj.alloc _) (dj_symm hdj) ?_; intro vl wl hOl hIl hdl hbl))
            rw [← HS1.out] at hIl
            rw [← HS2.out] at hOl
            go_roundw
            case rel => exact ⟨k + 1, by omega, by go_num, hIl, hOl, (dj_symm hdl), (hbj2.alloc hbj2.size _).trans hbl⟩
            case measure => simp [intOf]; omega
          · obtain rfl : k = 64 := by omega
            have hkz : ¬ ((64 : Nat) : Int) < 64 := by omega
            rw [List.take_of_length_le (by omega)] at hI hO
            have e8 : Below w.heap.size w w8 := e5.trans (HB.out.mono (by omega))
            have e9 := e8.trans (hb.mono e8.size)
            have hRx : Rd wr a' n' c' xs := hR'.carry (Nat.le_refl _) e9
            have hZ9 : Ar wr g4 27 .u8 (List.replicate 32 0) := (A4.below HB.out hg4).below hb (by have := HB.out.size; omega)
            have hb8 : b5 ≤ w8.heap.size := by have := HB.out.size; omega
            obtain ⟨S1, HS1⟩ : ∃ S, Hid (sha (P1 ++ xs) = S) := ⟨_, rfl⟩
            have hS1l : S1.length = 32 := by rw [← HS1.out]; exact shaB_len _ _ _
            have hS1b : Bd S1 := by rw [← HS1.out]; exact shaB_bd _ _ _
            rw [HS1.out] at HE
            have hi23 := (size_of Tryz.u23).2
            have hlh : (hmac ks xs).length = 32 := hmac_len _ _
            have t4 : True := trivial
            have t5 : True := trivial
            have t6 : True := trivial
            clear hrK
            go_wp2_with (first
              | (at_builtin; clear t4; refine wp_appD rfl (.tmp 48) (.tmp 49) rfl w8.heap.size _ 64 P1 rfl hI a' n' c' xs rfl hRx (by omega) hb.size _ 64 P2 hO hd ?_; intro vA wA hIA hOA hdA hbA; obtain ⟨aA, cA, rfl, hrA⟩ := Rd.ofOwn hIA (hb54.append hR'.bytes))
              | (go_at_call 30; clear t5; refine (refSha_any aA (64 + n') cA (P1 ++ xs) _ hrA (by omega)).mono ?_; rintro e wB ⟨rfl, hbB⟩; rw [HS1.out]; have hOB := own_belT hOA hbB)
              | (refine wp_alloc_ar rfl 27 rfl .u8 (List.replicate 32 0) 32 Tryz.z23 ?_; intro gC wC AC hgC hbC; have hOC := own_belT hOB hbC)
              | (clear t6; refine wp_store_ar rfl 27 (.tmp 10) (.tmp 51) rfl gC rfl .u8 S1 rfl 27 _ AC (by rw [hS1l]; rfl) (by rw [hS1l]; exact hi23) ?_; intro wD AD hkD hsD; clear hsD; have hOD := own_keep hOC hkD (fun q hq e => by have := (hOB.lt q hq).2; omega); have hbD : Below w8.heap.size wr wD := ((hbA.trans (hbB.mono (by have := hbA.size; have := hb.size; omega))).trans (hbC.mono (by have := hbA.size; have := hb.size; have := hbB.size; omega))).trans (hkD.below (by have := hbA.size; have := hb.size; have := hbB.size; have := hbC.size; omega) (fun q hq => by have := hbA.size; have := hb.size; have := hbB.size; omega)); have hrD := rd_row AD hS1b (by rw [hS1l]; unfold maxLen; omega); rw [hS1l] at hrD)
              | (at_builtin; refine wp_appK rfl (.tmp 52) (.tmp 53) rfl w8.heap.size _ 64 P2 rfl hOD _ 32 32 S1 rfl hrD (by omega) (by have := hbD.size; have := hb.size; omega) ?_; intro vE wE hOE hgE hE3; have hbE : Below w8.heap.size wD wE := (Below.refl _ _).grown hgE (by have := hbD.size; have := hb.size; omega) (fun k hk => (hOD.lt k hk).1); obtain ⟨aE, cE, rfl, hrE⟩ := Rd.ofOwn hOE (hb92.append hS1b))
              | (go_at_call 30; refine (refSha_any aE (64 + 32) cE (P2 ++ S1) _ hrE (by omega)).mono ?_; rintro e wF ⟨rfl, hbF⟩; rw [HE.out]; have hZF : Ar wF g4 27 .u8 (List.replicate 32 0) := ((hZ9.below hbD (by omega)).below hbE (by omega)).below hbF (by have := hbD.size; have := hbE.size; have := hb.size; omega))
              | (refine wp_store_ar rfl 27 (.tmp 4) (.tmp 55) rfl g4 rfl .u8 (hmac ks xs) rfl 27 _ hZF (by rw [hlh]; rfl) (by rw [hlh]; exact hi23) ?_; intro wG AG hkG hsG))
            refine bodyPost_ret (v := .agg (ic .u8 (hmac ks xs)).toArray) (ar_results rfl _ _ g4 27 .u8 (hmac ks xs) 5 32 rfl AG Tryz.u23 hlh) rfl ⟨rfl, ?_⟩
            have f1 := e9.trans (hbD.mono (by omega))
            have f2 := f1.trans (hbE.mono (by omega))
            have f3 := f2.trans (hbF.mono f2.size)
            exact f3.trans (hkG.below f3.size (fun q hq => by omega))
end Go.Proofs.YtmilcknboaefkaaGreatDoor
