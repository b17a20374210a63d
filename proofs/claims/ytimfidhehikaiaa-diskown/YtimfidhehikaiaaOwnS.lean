/- A book: Stands, and a look at lists with their marks. -/
import Derived.Test.YtimfidhehikaiaaOwnB
namespace Go.Proofs.Ytimfidhehikaiaa
open Go.RowKit

set_option maxHeartbeats 1600000 in
theorem stands_any (p N : Nat) (fv wv ov mv : Value) (fs ws : List Value) (xs : List (List Int)) (w : World) (hC : BC w p fv wv ov mv N) (hT : Two w fv wv fs ws xs xs) (hf : fs.length ≤ 2000000) :
    Calls Try.prog 58 #[.pointer (some ⟨p, 0, none⟩)] w fun e w' => e = .returned (.bool true) ∧ ∃ d, w' = w.drewN d := by
  obtain ⟨af, cf, rfl⟩ := own_sl hT.f.row
  obtain ⟨aw, cw, rfl⟩ := own_sl hT.g.row
  have HX : Hid (fs.length = xs.length) := hT.f.ows.len
  have HW : Hid (ws.length = xs.length) := hT.g.ows.len
  have hws : ws.length ≤ 2000000 := by have := HX.out; have := HW.out; omega
  have hc0 := hC.c0
  have hc1 := hC.c1
  go_enter Try.func58, Try.ntmps58
  go_wp2
  go_loopw [3] (fun i wr => ∃ k d : Nat, k ≤ fs.length ∧ i = .int .i64 k ∧ wr = w.drewN d) (fun i _ => fs.length - (intOf i).toNat)
  case atStart => exact ⟨0, 0, Nat.zero_le _, rfl, rfl⟩
  case round =>
    obtain ⟨k, d, hk, rfl, rfl⟩ := hrel
    by_cases hlt : k < fs.length
    · have hlz : (k : Int) < (fs.length : Int) := by omega
      have hlz2 : (k : Int) < (ws.length : Int) := by have := HX.out; have := HW.out; omega
      obtain ⟨gf, capf, ak, nk, ck, hv, hcell, hvk, hok, hnk, hrk⟩ := hT.f.cell hlt
      cases hv
      obtain ⟨gw, capw, aj, nj, cj, hv, hcellw, hvj, hoj, hnj, hrj⟩ := hT.g.cell (j := k) (by have := HX.out; have := HW.out; omega)
      cases hv
      have hs := hrk.strN
      have hs' := hrj.strN
      generalize strOfNums (xs.getD k []) = str at hs hs'
      clear hnk hnj hrk hrj hok hoj
      go_wp2
      go_quiet (fail)
      go_wp2
      go_roundw
      case rel => exact ⟨k + 1, _, by omega, by go_num, rfl⟩
      case measure => simp [intOf]; omega
    · have hlz : ¬ (k : Int) < (fs.length : Int) := by omega
      go_wp2
      go_ret
      exact ⟨rfl, _, rfl⟩

def mk (i : Nat) : Int := ((i % 125 : Nat) : Int)
def mk2 (i : Nat) : Int := ((125 + i % 125 : Nat) : Int)

set_option maxHeartbeats 3200000 in
set_option maxRecDepth 4000000 in
theorem look_any (p N : Nat) (fv wv ov mv : Value) (fs vs : List Value) (zs os : List (List Int)) (lv : Value) (q : Nat) (w : World) (hC : BC w p fv wv ov mv N) (hF : Half w fv fs zs) (hL : Half w lv vs os) (hf : fs.length ≤ 2000000) (hvl : vs.length = fs.length)
    (hz : ∀ i, i < fs.length → zs.getD i [] = List.replicate (zs.getD i []).length (mk i) ∧ (zs.getD i []).length ≤ 1000000) (ho : ∀ i, i < fs.length → os.getD i [] = zs.getD i [] ++ List.replicate q (mk2 i)) (hq : q ≤ 1000) :
    Calls Try.prog 73 #[.pointer (some ⟨p, 0, none⟩), lv] w fun e w' => e = .returned (.bool true) ∧ w' = w := by
  obtain ⟨af, cf, rfl⟩ := own_sl hF.row
  obtain ⟨al, cl, rfl⟩ := own_sl hL.row
  rw [hvl]
  have HV : Hid (vs.length = fs.length) := hvl
  have HZ : Hid (∀ i, i < fs.length → zs.getD i [] = List.replicate (zs.getD i []).length (mk i) ∧ (zs.getD i []).length ≤ 1000000) := hz
  have HO : Hid (∀ i, i < fs.length → os.getD i [] = zs.getD i [] ++ List.replicate q (mk2 i)) := ho
  clear hvl hz ho
  have hc0 := hC.c0
  go_enter Try.func73, Try.ntmps73
  go_wp2
  go_loopw [5, 6, 7] (fun i _ _ wr => ∃ k : Nat, k ≤ fs.length ∧ i = .int .i64 k ∧ wr = w) (fun i _ _ _ => fs.length - (intOf i).toNat)
  case atStart => exact ⟨0, Nat.zero_le _, rfl, rfl⟩
  case round =>
    obtain ⟨k, hk, rfl, hwr⟩ := hrel
    rw [hwr]
    clear hwr
    by_cases hlt : k < fs.length
    · have hlz : (k : Int) < (fs.length : Int) := by omega
      obtain ⟨gf, capf, ak, nk, ck, hv, hcell, hvk, hok, hnk, hrk⟩ := hF.cell hlt
      cases hv
      obtain ⟨gw, capw, aj, nj, cj, hv, hcellw, hvj, hoj, hnj, hrj⟩ := hL.cell (j := k) (by have := HV.out; omega)
      cases hv
      obtain ⟨hz1, hz2⟩ := HZ.out k hlt
      have ho1 := HO.out k hlt
      rw [ho1] at hnj hoj
      rw [← hnk] at hz1 hz2
      rw [List.length_append, ← hnk, List.length_replicate] at hnj
      rw [hz1] at hok hoj
      have HNJ : Hid (nj = nk + q) := hnj
      have hnjb : nj ≤ 2000000 := by omega
      have hnkj : nk ≤ nj := by omega
      clear hnk hnj hrk hrj hz1 ho1
      go_wp2
      go_loopw [7] (fun i wr => ∃ m : Nat, m ≤ nj ∧ i = .int .i64 m ∧ wr = w) (fun i _ => nj - (intOf i).toNat)
      case atStart => exact ⟨0, Nat.zero_le _, rfl, rfl⟩
      case round =>
        obtain ⟨m, hm, rfl, hwr⟩ := hrel
        rw [hwr]
        clear hwr
        by_cases hmn : m < nj
        · have hmz : (m : Int) < (nj : Int) := by omega
          obtain ⟨gj, haj, hx1, hx2, hwj⟩ := hoj.some (by omega)
          clear hx1 hx2
          subst haj
          have hcj := (hwj m).2 hmn
          clear hwj
          by_cases hmk : m < nk
          · have hmkz : (m : Int) < (nk : Int) := by omega
            have hmkz' : ¬ (nk : Int) ≤ (m : Int) := by omega
            obtain ⟨gk, hak, hx1, hx2, hwk⟩ := hok.some (by omega)
            clear hx1 hx2
            subst hak
            have hck := (hwk m).2 hmk
            clear hwk
            have e1 : (List.replicate nk (mk k) ++ List.replicate q (mk2 k)).getD m 0 = mk k := by simp [List.getD, List.getElem?_append, hmk]
            have e2 : (List.replicate nk (mk k)).getD m 0 = mk k := by simp [List.getD, hmk]
            rw [e1] at hcj
            rw [e2] at hck
            clear e1 e2 hok hoj
            have hmke : (k : Int) % 125 = mk k := by unfold mk; omega
            go_wp2
            go_roundw
            case rel => exact ⟨m + 1, by omega, by go_num, by first | rfl | trivial⟩
            case measure => simp [intOf]; omega
          · have hmkz : ¬ (m : Int) < (nk : Int) := by omega
            have hmkz' : (nk : Int) ≤ (m : Int) := by omega
            have e1 : (List.replicate nk (mk k) ++ List.replicate q (mk2 k)).getD m 0 = mk2 k := by
              have h1 : ¬ m < nk := hmk
              have h2 : m - nk < q := by have := HNJ.out; omega
              simp [List.getD, List.getElem?_append, h1, h2]
            rw [e1] at hcj
            clear e1 hok hoj
            have hmke : (125 : Int) + (k : Int) % 125 = mk2 k := by unfold mk2; omega
            go_wp2
            go_roundw
            case rel => exact ⟨m + 1, by omega, by go_num, by first | rfl | trivial⟩
            case measure => simp [intOf]; omega
        · have hmz : ¬ (m : Int) < (nj : Int) := by omega
          go_wp2
          go_roundw
          case rel => exact ⟨k + 1, by omega, by go_num, by first | rfl | trivial⟩
          case measure => simp [intOf]; omega
    · have hlz : ¬ (k : Int) < (fs.length : Int) := by omega
      go_wp2
      go_ret
      exact ⟨rfl, rfl⟩

end Go.Proofs.Ytimfidhehikaiaa
