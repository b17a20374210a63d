/- A loan: Back looks whether each list is as it was, and writes it over. -/
import Derived.Test.YtimfidhehikaiaaOwnL
namespace Go.Proofs.Ytimfidhehikaiaa
open Go.RowKit

theorem mem_of {vs : List Value} {j : Nat} {v : Value} (hj : vs[j]? = some v) {k : Nat} (e : v.ownBlock = some k) : k ∈ blks vs := mem_blks.2 ⟨v, List.mem_of_getElem? hj, e⟩

/-- One place of a row written. -/
theorem Ow.stored {w : World} {g n c : Nat} {x : List Int} (h : Ow w (.slice (some ⟨g, 0, none⟩) n c) x) (j : Nat) (y : Int) (h0 : 0 ≤ y) (h1 : y ≤ 255) : Ow (w.setCell ⟨g, j, none⟩ (.int .u8 y)) (.slice (some ⟨g, 0, none⟩) n c) (x.set j y) := by
  have hn : n = x.length := by obtain ⟨a, c', hv, _⟩ := h.rd; cases hv; rfl
  subst hn
  have hs := (h.own.stored j (.int .u8 y)).1
  have e : (bc x).set j (.int .u8 y) = bc (x.set j y) := by unfold bc; rw [List.map_set]
  rw [e] at hs
  refine ⟨by rw [List.length_set]; exact hs, fun z hz => ?_⟩
  rcases List.mem_or_eq_of_mem_set hz with hz | rfl
  · exact h.bd z hz
  · exact ⟨h0, h1⟩

/-- One place of row i written: the half stands, its row i turned. -/
theorem Half.stored {w : World} {rv : Value} {vs : List Value} {xs : List (List Int)} (h : Half w rv vs xs) (hn : (blks vs).Nodup) {i : Nat} {g n c : Nat} (hi : vs[i]? = some (.slice (some ⟨g, 0, none⟩) n c)) (j : Nat) (y : Int) (h0 : 0 ≤ y) (h1 : y ≤ 255) :
    Half (w.setCell ⟨g, j, none⟩ (.int .u8 y)) rv vs (xs.set i ((xs.getD i []).set j y)) ∧ Keep (fun k => k ∈ blks vs) w (w.setCell ⟨g, j, none⟩ (.int .u8 y)) := by
  have hk : Keep (fun k => k = g) w (w.setCell ⟨g, j, none⟩ (.int .u8 y)) := Keep.setCell (S := fun k => k = g) (Keep.refl _ _) rfl _
  have ho := h.ows.get hi
  have hg : g ∈ blks vs := mem_of hi rfl
  refine ⟨⟨own_keep h.row hk (fun k e e2 => row_apart h.row h.ows g hg (by rw [← e2]; exact e)), Ows.set hk h.ows hn hi (fun k _ e => by rw [e]; rfl) (ho.stored j y h0 h1)⟩, hk.mono (fun k e => by rw [e]; exact hg)⟩

theorem Two.stored {w : World} {fv wv : Value} {fs ws : List Value} {xs ys : List (List Int)} (h : Two w fv wv fs ws xs ys) {i : Nat} {g n c : Nat} (hi : fs[i]? = some (.slice (some ⟨g, 0, none⟩) n c)) (j : Nat) (y : Int) (h0 : 0 ≤ y) (h1 : y ≤ 255) :
    Two (w.setCell ⟨g, j, none⟩ (.int .u8 y)) fv wv fs ws (xs.set i ((xs.getD i []).set j y)) ys ∧ Keep (fun k => k ∈ blks fs) w (w.setCell ⟨g, j, none⟩ (.int .u8 y)) := by
  obtain ⟨h2, h3⟩ := h.f.stored h.nodup hi j y h0 h1
  exact ⟨⟨h2, h.g.keep h3 (fun k e e2 => h.apart k (.inr e2) e), h.apart, h.nodup⟩, h3⟩
theorem Half.cellAt {w : World} {gf cap : Nat} {vs : List Value} {xs : List (List Int)} (h : Half w (.slice (some ⟨gf, 0, none⟩) vs.length cap) vs xs) {j : Nat} {v : Value} (hj : vs[j]? = some v) : w.cell? ⟨gf, j, none⟩ = some v := by
  have := h.row.cells (g := gf) rfl j _ hj
  rwa [add_flat, Nat.zero_add] at this
/-- A row that is not empty lies in a block of its own. -/
theorem Ow.some {w : World} {a : Option Addr} {n c : Nat} {x : List Int} (h : Ow w (.slice a n c) x) (hn : 0 < n) : ∃ g, a = some ⟨g, 0, none⟩ ∧ n = x.length ∧ n ≤ c ∧ ∀ j, w.frozen? ⟨g, j, none⟩ = false ∧ (j < n → w.cell? ⟨g, j, none⟩ = some (.int .u8 (x.getD j 0))) := by
  have hl : n = x.length := by obtain ⟨a, c', hv, _⟩ := h.rd; cases hv; rfl
  subst hl
  rcases h.own.2 with ⟨hv, h0⟩ | ⟨g, cap, cur, hv, _, _, hc, _⟩
  · omega
  · cases hv
    refine ⟨g, rfl, rfl, hc, fun j => ⟨h.own.frozenAt j, fun hj => ?_⟩⟩
    rw [h.own.cellAt j (by omega)]
    unfold bc
    rw [List.getElem?_map]
    simp [List.getD, List.getElem?_eq_getElem hj]
theorem getD_set_ne {zs : List (List Int)} {i j : Nat} {z : List Int} (h : i ≠ j) : (zs.set i z).getD j [] = zs.getD j [] := by simp [List.getD, List.getElem?_set_ne h]
theorem getD_set_eq {zs : List (List Int)} {i : Nat} {z : List Int} (h : i < zs.length) : (zs.set i z).getD i [] = z := by simp [List.getD, h]

theorem Half.drewN {w : World} {rv : Value} {vs : List Value} {xs : List (List Int)} (h : Half w rv vs xs) (k : Nat) : Half (w.drewN k) rv vs xs := h.keep (S := fun _ => False) ⟨rfl, rfl, rfl, Nat.le_refl _, fun _ _ _ => rfl⟩ (fun _ _ h => h)
theorem keep_drewN {S : Nat → Prop} {a b : World} (h : Keep S a b) (k : Nat) : Keep S a (b.drewN k) := h.trans ⟨rfl, rfl, rfl, Nat.le_refl _, fun _ _ _ => rfl⟩

theorem Rd.strN {w : World} {a : Option Addr} {n c : Nat} {xs : List Int} (h : Rd w a n c xs) : ∀ k, (convert 31 9 (.slice a n c)).run Try.prog (w.drewN k) = .ok (.string (strOfNums xs)) (w.drewN k) := fun k => (rd_drewN h k).string

set_option maxHeartbeats 1600000 in
theorem loanBack_any (p : Nat) (fv wv : Value) (fs ws : List Value) (xs : List (List Int)) (w : World) (hL : LoanAt w p fv wv fs ws xs) (hf : fs.length ≤ 1000000) (hx : ∀ x ∈ xs, x.length ≤ 100000000) :
    Calls Try.prog 22 #[.pointer (some ⟨p, 0, none⟩)] w fun e w' => e = .returned (.bool true) ∧ Keep (LF p fv wv fs ws) w w' := by
  obtain ⟨hC, hT⟩ := hL
  obtain ⟨af, cf, rfl⟩ := own_sl hT.f.row
  obtain ⟨aw, cw, rfl⟩ := own_sl hT.g.row
  have HX : Hid (fs.length = xs.length) := hT.f.ows.len
  have HW : Hid (ws.length = xs.length) := hT.g.ows.len
  have hws : ws.length ≤ 1000000 := by have := HX.out; have := HW.out; omega
  go_enter Try.func22, Try.ntmps22
  go_wp2
  go_loopw [3, 4, 5] (fun ok i _ wr => ∃ (k : Nat) (zs : List (List Int)), ok = .bool true ∧ i = .int .i64 k ∧ k ≤ fs.length ∧ LC wr p (.slice af fs.length cf) (.slice aw ws.length cw) ∧ Two wr (.slice af fs.length cf) (.slice aw ws.length cw) fs ws zs xs ∧ (∀ j, k ≤ j → zs.getD j [] = xs.getD j []) ∧ (∀ j, (zs.getD j []).length = (xs.getD j []).length) ∧ Keep (LF p (.slice af fs.length cf) (.slice aw ws.length cw) fs ws) w wr) (fun _ i _ _ => fs.length - (intOf i).toNat)
  case atStart => exact ⟨0, xs, rfl, rfl, Nat.zero_le _, hC, hT, fun _ _ => rfl, fun _ => rfl, Keep.refl _ _⟩
  case round =>
    obtain ⟨k, zs, rfl, rfl, hk, hCr, hTr, hz1, hz2, hK⟩ := hrel
    have hc0 := hCr.c0
    have hc1 := hCr.c1
    by_cases hlt : k < fs.length
    · have hlz : (k : Int) < (fs.length : Int) := by omega
      have hlz2 : (k : Int) < (ws.length : Int) := by have := HX.out; have := HW.out; omega
      obtain ⟨gf, capf, ak, nk, ck, hv, hcell, hvk, hok, hnk, hrk⟩ := hTr.f.cell hlt
      cases hv
      obtain ⟨gw, capw, aj, nj, cj, hv, hcellw, hvj, hoj, hnj, hrj⟩ := hTr.g.cell (j := k) (by have := HX.out; have := HW.out; omega)
      cases hv
      rw [hz1 k (Nat.le_refl _)] at hrk hok hnk
      have hs := hrk.strN
      have hs' := hrj.strN
      generalize strOfNums (xs.getD k []) = str at hs hs'
      have HN : Hid (nk = (xs.getD k []).length) := hnk
      clear hnk hnj
      go_wp2
      go_quiet (fail)
      go_wp2
      have hnb : nk ≤ 100000000 := by
        have := HN.out
        have hk' : k < xs.length := by have := HX.out; omega
        have hm := hx xs[k] (List.getElem_mem hk')
        have e : xs.getD k [] = xs[k] := by simp [List.getD, List.getElem?_eq_getElem hk']
        rw [e] at this; omega
      clear hs hs' hcellw hrj hoj hvj hcell hrk hok
      generalize hWq : World.drewN _ _ = wq
      have hCq : LC wq p (.slice (some ⟨gf, 0, none⟩) fs.length cf) (.slice (some ⟨gw, 0, none⟩) ws.length cw) := by rw [← hWq]; exact hCr
      have hTq : Two wq (.slice (some ⟨gf, 0, none⟩) fs.length cf) (.slice (some ⟨gw, 0, none⟩) ws.length cw) fs ws zs xs := by rw [← hWq]; exact hTr.keep (S := fun _ => False) (keep_drewN (Keep.refl _ _) _) (fun _ _ h => h)
      have hKq : Keep (LF p (.slice (some ⟨gf, 0, none⟩) fs.length cf) (.slice (some ⟨gw, 0, none⟩) ws.length cw) fs ws) w wq := by rw [← hWq]; exact keep_drewN hK _
      clear hWq hCr hTr hK hc0 hc1
      go_loopw [5] (fun i wr => ∃ (m : Nat) (ys : List (List Int)), i = .int .i64 m ∧ m ≤ nk ∧ LC wr p (.slice (some ⟨gf, 0, none⟩) fs.length cf) (.slice (some ⟨gw, 0, none⟩) ws.length cw) ∧ Two wr (.slice (some ⟨gf, 0, none⟩) fs.length cf) (.slice (some ⟨gw, 0, none⟩) ws.length cw) fs ws ys xs ∧ (∀ j, k + 1 ≤ j → ys.getD j [] = xs.getD j []) ∧ (∀ j, (ys.getD j []).length = (xs.getD j []).length) ∧ Keep (LF p (.slice (some ⟨gf, 0, none⟩) fs.length cf) (.slice (some ⟨gw, 0, none⟩) ws.length cw) fs ws) w wr) (fun i _ => nk - (intOf i).toNat)
      case atStart => exact ⟨0, zs, rfl, Nat.zero_le _, hCq, hTq, fun j hj => hz1 j (by omega), hz2, hKq⟩
      case round =>
        clear hCq hTq hKq
        obtain ⟨m, ys, rfl, hm, hCr, hTr, hy1, hy2, hK⟩ := hrel
        have hc0 := hCr.c0
        have hcell := hTr.f.cellAt hvk
        by_cases hmn : m < nk
        · have hmz : (m : Int) < (nk : Int) := by omega
          obtain ⟨g, hak, hnl, hnc, hwr⟩ := (hTr.f.ows.get hvk).some (by omega)
          subst hak
          have HNL : Hid (nk = (ys.getD k []).length) := hnl
          clear hnl
          obtain ⟨hfz, hcm⟩ := hwr m
          have hcm' := hcm hmn
          clear hwr hcm
          go_wp2
          obtain ⟨hT', hK'⟩ := hTr.stored hvk m 90 (by omega) (by omega)
          have hC' : LC (wr.setCell ⟨g, m, none⟩ (.int .u8 90)) p _ _ := hCr.keep hK' (fun e => LoanAt.not hCr hTr (.inl (.inr e)))
          have hky : k < ys.length := by rw [← hTr.f.ows.len]; exact hlt
          go_roundw
          case rel => exact ⟨m + 1, _, by go_num, by omega, hC', hT', fun j hj => by rw [getD_set_ne (by omega)]; exact hy1 j hj, fun j => by
            by_cases hj : k = j
            · subst hj; rw [getD_set_eq hky, List.length_set]; exact hy2 k
            · rw [getD_set_ne hj]; exact hy2 j, hK.andThen hK' (fun i _ e => .inr (.inl (.inr e)))⟩
          case measure => simp [intOf]; omega
        · have hmz : ¬ (m : Int) < (nk : Int) := by omega
          go_wp2
          go_roundw
          case rel => exact ⟨k + 1, ys, rfl, by go_num, by omega, hCr, hTr, hy1, hy2, hK⟩
          case measure => simp [intOf]; omega
    · have hlz : ¬ (k : Int) < (fs.length : Int) := by omega
      go_wp2
      go_ret
      exact ⟨rfl, hK⟩

end Go.Proofs.Ytimfidhehikaiaa
