/- Base64Joins. -/
import Derived.Test.YtmmjeikmifhekaaB6W
import Derived.WalkKit
import Derived.BigFrame
import Derived.ProofKit
import Derived.OpenShut
import Derived.Deep.DeepHandedRow
namespace Go.Proofs.Ytmmjeikmifhekaa
open Go.RowKit

/-- append of bytes to own bytes, where the operation is wanted (it may stand behind a guard). -/
theorem wp_appW {w : World} {ops : Array Oper} {rest : List Oper} {o : Oper} {a : Act} {Q : Exit → Act → World → Prop} (hw : Region.wanted o (yielded ops a.tmps) = true) (s x : Operand)
    (ho : o.op = .call { callee := .builtin .append, args := #[s, x], argTypes := #[22, 22] })
    (base : Nat) (v : Value) (n : Nat) (xs : List Int) (hs : a.eval s = v) (hown : w.ownsRow base 5 1 v n (bc xs))
    (ao : Option Addr) (m c : Nat) (ys : List Int) (hx : a.eval x = .slice ao m c) (hr : Rd w ao m c ys) (hb : n + m ≤ 1000000000) (hbase : base ≤ w.heap.size)
    (h : ∀ v' w', w'.ownsRow base 5 1 v' (n + m) (bc (xs ++ ys)) → Below base w w' → wpList Try.prog ops Q rest (a.put o.dst v') w') : wpList Try.prog ops Q (o :: rest) a w := by
  obtain ⟨i0, hi, hz0, hz1, hz2⟩ := info_parts Try.info5
  refine Go.BigFrame.wpList_want hw fun K hK => ?_
  cases ao with
  | none =>
    obtain ⟨rfl, rfl⟩ := rd_noneK hr rfl
    have hys : ys = [] := List.eq_nil_of_length_eq_zero hr.len
    subst hys
    have hrun := run_append_owned_none (P := Try.prog) w base 22 o.type 5 i0 1 Try.underlying22 hi v n (bc xs) hown
    unfold Oper.wp
    simp only [execOp, ho, resolve, invoke, builtin, Sem.run_bind, Sem.run_pure, Result.andThen_ok, List.map_toArray, List.map_cons, List.map_nil, hs, hx, hrun]
    exact hK _ _ (h v w (by simpa using hown) (Below.refl _ _))
  | some ad =>
    obtain ⟨v', w', hrun, h2, h3, _⟩ := run_append_own (P := Try.prog) w base 22 o.type 5 i0 (.int .u8 0) 1 1 Try.underlying22 hi hz0 hz1 hz2 rfl (by decide) v n (bc xs) hown ad m c (bc ys) (by rw [bc_len, hr.len]; omega) (hr.news rfl) (bc_one ys) (by unfold maxLen; omega) (by omega) hbase
    rw [← bc_append] at h2
    unfold Oper.wp
    simp only [execOp, ho, resolve, invoke, builtin, Sem.run_bind, Sem.run_pure, Result.andThen_ok, List.map_toArray, List.map_cons, List.map_nil, hs, hx, hrun]
    exact hK _ _ (h v' w' h2 ((Below.refl _ _).grown h3 hbase (fun k hk => (hown.lt k hk).1)))

/-- The same onto a new empty slice: in the world that was there before it. -/
theorem wp_app0W {w : World} {ops : Array Oper} {rest : List Oper} {o : Oper} {a : Act} {Q : Exit → Act → World → Prop} (hw : Region.wanted o (yielded ops a.tmps) = true) (s x : Operand)
    (ho : o.op = .call { callee := .builtin .append, args := #[s, x], argTypes := #[22, 22] })
    (hs : a.eval s = .slice (some ⟨w.heap.size, 0, none⟩) 0 0)
    (ao : Option Addr) (m c : Nat) (ys : List Int) (hx : a.eval x = .slice ao m c) (hr : Rd w ao m c ys) (hb : m ≤ 1000000000)
    (h : ∀ v' w', w'.ownsRow w.heap.size 5 1 v' m (bc ys) → Below w.heap.size w w' → wpList Try.prog ops Q rest (a.put o.dst v') w') : wpList Try.prog ops Q (o :: rest) a (w.alloc (.cells #[] 5)) := by
  have hown : (w.alloc (.cells #[] 5)).ownsRow w.heap.size 5 1 (.slice (some ⟨w.heap.size, 0, none⟩) 0 0) 0 (bc []) := World.ownsRow_made w #[] 0 (Nat.le_refl _) (by unfold maxLen; omega) rfl
  refine wp_appW hw s x ho w.heap.size _ 0 [] hs hown ao m c ys hx (hr.carry (Nat.le_refl _) ((Below.refl _ _).alloc (Nat.le_refl _) _)) (by omega) (by simp) ?_
  intro v' w' h1 h2
  simp only [Nat.zero_add, List.nil_append] at h1
  exact h v' w' h1 (((Below.refl _ _).alloc (Nat.le_refl _) _).trans h2)

namespace base64Joins
set_option maxRecDepth 100000 in
set_option maxHeartbeats 4000000 in
theorem walk (a : Option Addr) (n c : Nat) (xs : List Int) (a' : Option Addr) (n' c' : Nat) (ys : List Int) (w : World) (hR : Rd w a n c xs) (hR' : Rd w a' n' c' ys) :
    Calls Try.prog 6 #[.slice a n c, .slice a' n' c'] w fun e w' => e = .returned (.bool true) ∧ Below w.heap.size w w' := by
  go_enter Try.func6, Try.ntmps6
  go_wp2_with fail
  refine (fewR a n c xs _ hR).mono ?_
  rintro e w1 ⟨a1, n1, c1, rfl, hn1, hr1, hb1⟩
  go_wp2_with fail
  refine (fewR a' n' c' ys _ (hR'.carry (Nat.le_refl _) hb1)).mono ?_
  rintro e w2 ⟨a2, n2, c2, rfl, hn2, hr2, hb2⟩
  replace hr1 := hr1.carry (Nat.le_refl _) hb2
  have hb := hb1.trans (hb2.mono hb1.size)
  clear hb1 hb2 hR hR'
  generalize xs.take 1000 = P at hr1
  generalize ys.take 1000 = Q at hr2
  have hl1 := hr1.len
  have hl2 := hr2.len
  have hc1 := hr1.cap
  obtain ⟨k, hk, hkn, hk3⟩ : ∃ k : Nat, (n1 : Int) / 3 * 3 = (k : Int) ∧ k ≤ n1 ∧ k % 3 = 0 := ⟨n1 / 3 * 3, by omega, by omega, by omega⟩
  have hrx := hr1.takeK hkn
  generalize hX : P.take k = X at hrx
  have hlX : X.length = k := hrx.len
  have bX := hrx.bytes
  have bQ := hr2.bytes
  have hJ : enc (X ++ Q) = enc X ++ enc Q := enc_app X Q (by rw [hlX]; exact hk3)
  have hdec : dec (enc X ++ enc Q) = some (X ++ Q) := by rw [← hJ]; exact dec_enc (bX.append bQ)
  have hlen : (enc X ++ enc Q).length ≤ 1000000 := by rw [List.length_append, enc_len, enc_len]; omega
  have cD := fun u => decodeR (enc X ++ enc Q) (X ++ Q) 0 u ((enc_bd bX).append (enc_bd bQ)) hlen (by rw [hdec]; rfl) (by rw [hdec]; rfl)
  have hsJ : strOfNums (enc X) ++ strOfNums (enc Q) = strOfNums (enc X ++ enc Q) := str_append _ _
  have hsX : strOfNums X ++ strOfNums Q = strOfNums (X ++ Q) := str_append _ _
  have hcx := hrx.string
  have hcq := hr2.string
  obtain ⟨sE, HsE⟩ : ∃ s, Hid (strOfNums (enc X ++ enc Q) = s) := ⟨_, rfl⟩
  obtain ⟨sX, HsX⟩ : ∃ s, Hid (strOfNums (enc X) = s) := ⟨_, rfl⟩
  obtain ⟨sQ, HsQ⟩ : ∃ s, Hid (strOfNums (enc Q) = s) := ⟨_, rfl⟩
  obtain ⟨tE, HtE⟩ : ∃ s, Hid (strOfNums (X ++ Q) = s) := ⟨_, rfl⟩
  obtain ⟨tX, HtX⟩ : ∃ s, Hid (strOfNums X = s) := ⟨_, rfl⟩
  obtain ⟨tQ, HtQ⟩ : ∃ s, Hid (strOfNums Q = s) := ⟨_, rfl⟩
  simp only [HsE.out] at cD
  rw [HsE.out, HsX.out, HsQ.out] at hsJ
  rw [HtE.out, HtX.out, HtQ.out] at hsX
  have zX : sX.size ≤ 100000 := by rw [← HsX.out, str_size, enc_len]; omega
  have zQ : sQ.size ≤ 100000 := by rw [← HsQ.out, str_size, enc_len]; omega
  have yX : tX.size ≤ 100000 := by rw [← HtX.out, str_size]; omega
  have yQ : tQ.size ≤ 100000 := by rw [← HtQ.out, str_size]; omega
  clear hdec hlen hl1 hl2 hlX hX hk3
  have eX := fun u p q s (h : Rd u p q s X) (hq : q ≤ 1000) => encode_any p q s X u h (by omega)
  have eQ := fun u p q s (h : Rd u p q s Q) (hq : q ≤ 1000) => encode_any p q s Q u h (by omega)
  have eJ := fun u p q s (h : Rd u p q s (X ++ Q)) (hq : q ≤ 3000) => encode_any p q s (X ++ Q) u h (by omega)
  simp only [HsX.out] at eX
  simp only [HsQ.out] at eQ
  rw [show enc (X ++ Q) = enc X ++ enc Q from hJ] at eJ
  simp only [HsE.out] at eJ
  clear hJ hr1 hcx hcq
  have tk1 : True := trivial
  have tk2 : True := trivial
  have tk3 : True := trivial
  have tk4 : True := trivial
  have tk5 : True := trivial
  have tk6 : True := trivial
  have tk7 : True := trivial
  have tk8 : True := trivial
  have tk9 : True := trivial
  have tk10 : True := trivial
  have tk11 : True := trivial
  go_wp2_with (first
    | (at_builtin; clear tk1; refine wp_app0W rfl (.tmp 20) (.tmp 21) rfl rfl a1 k c1 X rfl hrx (by omega) ?_; intro v3 w3 ho3 hb3; obtain ⟨a3, c3, rfl, hr3⟩ := Rd.ofOwn ho3 bX; clear ho3; have zw3 := hb3)
    | (go_at_call 10; clear tk2; refine (eX _ _ _ _ hr3 (by omega)).mono ?_; rintro e w4 ⟨rfl, hb4⟩; have zw4 := zw3.trans (hb4.mono zw3.size))
    | (at_builtin; clear tk3; refine wp_app0W rfl (.tmp 24) (.tmp 25) rfl rfl a2 n2 c2 Q rfl (hr2.carry (Nat.le_refl _) zw4) (by omega) ?_; intro v5 w5 ho5 hb5; obtain ⟨a5, c5, rfl, hr5⟩ := Rd.ofOwn ho5 bQ; clear ho5; have zw5 := zw4.trans (hb5.mono zw4.size))
    | (go_at_call 10; clear tk4; refine (eQ _ _ _ _ hr5 (by omega)).mono ?_; rintro e w6 ⟨rfl, hb6⟩; have zw6 := zw5.trans (hb6.mono zw5.size))
    | (go_at_call 8; refine (cD _).mono ?_; rintro e w7 ⟨a7, n7, c7, rfl, hr7, hN7, hb7⟩; clear hN7; have hcv := hr7.string; rw [HtE.out] at hcv; have zw7 := zw6.trans (hb7.mono zw6.size); have hcx := (hrx.carry (Nat.le_refl _) zw7).string; have hcq := (hr2.carry (Nat.le_refl _) zw7).string; rw [HtX.out] at hcx; rw [HtQ.out] at hcq)
    | (at_builtin; clear tk5; refine wp_app0W rfl (.tmp 45) (.tmp 46) rfl rfl a1 k c1 X rfl (hrx.carry (Nat.le_refl _) zw7) (by omega) ?_; intro v8 w8 ho8 hb8; have zw8 := zw7.trans (hb8.mono zw7.size))
    | (at_builtin; clear tk6; refine wp_appW rfl (.tmp 47) (.tmp 48) rfl w7.heap.size _ k X rfl ho8 a2 n2 c2 Q rfl (hr2.carry (Nat.le_refl _) zw8) (by omega) hb8.size ?_; intro v9 w9 ho9 hb9; obtain ⟨a9, c9, rfl, hr9⟩ := Rd.ofOwn ho9 (bX.append bQ); clear ho9 ho8; have hb9' := hb8.trans hb9; have zw9 := zw7.trans (hb9'.mono zw7.size))
    | (go_at_call 10; clear tk7; refine (eJ _ _ _ _ hr9 (by omega)).mono ?_; rintro e w10 ⟨rfl, hb10⟩; have zw10 := zw9.trans (hb10.mono zw9.size))
    | (at_builtin; clear tk8; refine wp_app0W rfl (.tmp 51) (.tmp 52) rfl rfl a1 k c1 X rfl (hrx.carry (Nat.le_refl _) zw10) (by omega) ?_; intro v11 w11 ho11 hb11; obtain ⟨a11, c11, rfl, hr11⟩ := Rd.ofOwn ho11 bX; clear ho11; have zw11 := zw10.trans (hb11.mono zw10.size))
    | (go_at_call 10; clear tk9; refine (eX _ _ _ _ hr11 (by omega)).mono ?_; rintro e w12 ⟨rfl, hb12⟩; have zw12 := zw11.trans (hb12.mono zw11.size))
    | (at_builtin; clear tk10; refine wp_app0W rfl (.tmp 55) (.tmp 56) rfl rfl a2 n2 c2 Q rfl (hr2.carry (Nat.le_refl _) zw12) (by omega) ?_; intro v13 w13 ho13 hb13; obtain ⟨a13, c13, rfl, hr13⟩ := Rd.ofOwn ho13 bQ; clear ho13; have zw13 := zw12.trans (hb13.mono zw12.size))
    | (go_at_call 10; clear tk11; refine (eQ _ _ _ _ hr13 (by omega)).mono ?_; rintro e w14 ⟨rfl, hb14⟩; have zw14 := zw13.trans (hb14.mono zw13.size))
    | (go_at_call 13; refine (wakes_any _).mono ?_; rintro e w15 ⟨rfl, hb15⟩; have zw15 := zw14.trans (hb15.mono zw14.size)))
  go_ret
  exact ⟨rfl, hb.trans (zw15.mono hb.size)⟩
end base64Joins
end Go.Proofs.Ytmmjeikmifhekaa
