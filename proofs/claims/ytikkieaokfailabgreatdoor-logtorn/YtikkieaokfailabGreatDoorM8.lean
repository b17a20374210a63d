/- Texts of one seat, one behind the other: LtI, LtC. -/
import Derived.Test.YtikkieaokfailabGreatDoorM7
import Derived.BigQuiet
import Derived.Deep.QuietTactic
import Derived.Deep.CutBlock
import Derived.Deep.CutRange
/- Append of a number to a row of the call's own, with its place told; a log where other blocks are written. -/
namespace Go.Proofs.YtikkieaokfailabGreatDoor
open Go.RowKit Go.Joins

theorem infoInt : (Tryz.prog.info? 3).map (fun i => (i.zero, i.size, i.bytes)) = some (some (.int .i64 0), 1, 8) := by kernel_rfl
set_option maxRecDepth 100000 in
theorem app_whereI {w : World} {base : Nat} {v : Value} {n : Nat} {xs : List Value} (hown : w.ownsRow base 3 1 v n xs) {ad : Addr} {c : Nat} {u : Value} (hu : u.oneCell' = true) (hr : ∀ j x, [u][j]? = some x → w.cell? (ad.add j) = some x) (hb : n ≤ 1000000) {ty : TypeId} {v' : Value} {w' : World}
    (hrun : (Builtin.append_ #[31, 31] ty #[v, .slice (some ad) 1 c]).run Tryz.prog w = .ok v' w') : v'.ownBlock = v.ownBlock ∨ v'.ownBlock = some w.heap.size := by
  obtain ⟨i0, hi, hz0, hz1, hz2⟩ := info_parts infoInt
  have hl : [u].length = 1 * i0.size := by rw [hz1]; rfl
  rcases hown.2 with ⟨rfl, rfl⟩ | ⟨g, cap, cur, rfl, hbg, hg, hnc, hcm, hcs, htake⟩
  · right
    have hr2 := run_append_nil (P := Tryz.prog) w 31 ty 3 i0 (.int .i64 0) Tryz.underlying31 hi hz0 ad 1 c [u] hl hr (by omega) (by omega) (by rw [hz2]; omega)
    rw [hr2] at hrun
    injection hrun with e _
    rw [← e]; rfl
  · by_cases hroom : n + 1 ≤ cap
    · left
      have hr2 := run_append_room (P := Tryz.prog) w 31 ty 3 i0 Tryz.underlying31 hi g n cap cur hg ad 1 c [u] hl hr (by simpa using hu) hroom (by rw [hl, hcs, hz1]; omega)
      rw [hr2] at hrun
      injection hrun with e _
      rw [← e]; rfl
    · right
      have hr2 := run_append_grow (P := Tryz.prog) w 31 ty 3 i0 (.int .i64 0) Tryz.underlying31 hi hz0 ⟨g, 0, none⟩ n cap xs (by rw [hown.1, hz1]) (hown.cells (g := g) rfl) ad 1 c [u] hl hr (by omega) (by omega) (growslice_fits (by omega) (by rw [hz2]; omega))
      rw [hr2] at hrun
      injection hrun with e _
      rw [← e]; rfl
theorem run_appI {w : World} (ty : TypeId) {base : Nat} {v : Value} {n : Nat} {xs : List Value} (hown : w.ownsRow base 3 1 v n xs) (z : Int) (hn : n ≤ 1000000) (hbase : base ≤ w.heap.size) :
    ∃ v' w', (Builtin.append_ #[31, 31] ty #[v, .slice (some ⟨w.heap.size, 0, none⟩) 1 1]).run Tryz.prog (w.alloc (.cells #[.int .i64 z] 3)) = .ok v' w' ∧ w'.ownsRow base 3 1 v' (n + 1) (xs ++ [.int .i64 z]) ∧ Keep (fun k => v.ownBlock = some k) w w' ∧ (v'.ownBlock = v.ownBlock ∨ ∃ g, v'.ownBlock = some g ∧ w.heap.size ≤ g) := by
  obtain ⟨i0, hi, hz0, hz1, hz2⟩ := info_parts infoInt
  have hk0 : Keep (fun k => v.ownBlock = some k) w (w.alloc (.cells #[.int .i64 z] 3)) := (Keep.refl _ _).alloc _
  have hown1 := own_keep (S := fun _ => False) hown ((Keep.refl (fun _ => False) w).alloc (.cells #[.int .i64 z] 3)) (fun _ _ h => h)
  have hnw : ∀ j u, [Value.int .i64 z][j]? = some u → (w.alloc (.cells #[.int .i64 z] 3)).cell? ((⟨w.heap.size, 0, none⟩ : Addr).add j) = some u := fun j u hu => by
    rw [add_flat, Nat.zero_add, cell_of_block (alloc_at w (.cells #[.int .i64 z] 3))]
    simpa using hu
  obtain ⟨v', w', hrun, h2, h3, _⟩ := run_append_own (P := Tryz.prog) (w.alloc (.cells #[.int .i64 z] 3)) base 31 ty 3 i0 (.int .i64 0) 1 8 Tryz.underlying31 hi hz0 hz1 hz2 rfl (by decide) v n xs hown1 ⟨w.heap.size, 0, none⟩ 1 1 [.int .i64 z] (by simp) hnw (by simp [Value.oneCell']) (by unfold maxLen; omega) (by omega) (by simp; omega)
  have h4 := app_whereI hown1 (by simp [Value.oneCell']) hnw hn hrun
  refine ⟨v', w', hrun, h2, hk0.trans (Keep.ofGrown h3), ?_⟩
  rcases h4 with h4 | h4
  · exact Or.inl h4
  · exact Or.inr ⟨_, h4, by simp⟩

theorem wp_app1I {w : World} {ops : Array Oper} {rest : List Oper} {o : Oper} {a : Act} {Q : Exit → Act → World → Prop} (hgd : o.guard = none) (s x : Operand)
    (ho : o.op = .call { callee := .builtin .append, args := #[s, x], argTypes := #[31, 31] })
    (base : Nat) (v : Value) (n : Nat) (xs : List Value) (hs : a.eval s = v) (hown : w.ownsRow base 3 1 v n xs) (z : Int)
    (hx : a.eval x = .slice (some ⟨w.heap.size, 0, none⟩) 1 1) (hn : n ≤ 1000000) (hbase : base ≤ w.heap.size)
    (h : ∀ v' w', w'.ownsRow base 3 1 v' (n + 1) (xs ++ [.int .i64 z]) → Keep (fun k => v.ownBlock = some k) w w' → (v'.ownBlock = v.ownBlock ∨ ∃ g, v'.ownBlock = some g ∧ w.heap.size ≤ g) → wpList Tryz.prog ops Q rest (a.put o.dst v') w') : wpList Tryz.prog ops Q (o :: rest) a (w.alloc (.cells #[.int .i64 z] 3)) := by
  refine wpList_plain hgd fun K hK => ?_
  obtain ⟨v', w', hrun, h2, h3, h4⟩ := run_appI o.type hown z hn hbase
  unfold Oper.wp
  simp only [execOp, ho, resolve, invoke, builtin, Sem.run_bind, Sem.run_pure, Result.andThen_ok, List.map_toArray, List.map_cons, List.map_nil, hs, hx, hrun]
  exact hK _ _ (h v' w' h2 h3 h4)
theorem LogAt.keep {S : Nat → Prop} {w w' : World} {F H : Nat → Prop} {lb d : Nat} {l : Lg} {k : Dk} (h : LogAt w F H lb d l k) (hk : Keep S w w') (hF : ∀ i, F i → ¬ S i) (hH : ∀ i, H i → ¬ S i) (hl : ¬ S lb) (hg : ¬ S 0) : LogAt w' F H lb d l k := by
  obtain ⟨v, h1, h2⟩ := h.ex
  exact ⟨⟨v, h1.keep hk hF hl, h2.keep hk hH (fun _ h => h)⟩, h.hf, h.hl, fun i hi => Nat.lt_of_lt_of_le (h.lt i hi) hk.size, ⟨h.pf.pw.keep hk hg, h.pf.fl, h.pf.ll⟩, h.ph⟩

end Go.Proofs.YtikkieaokfailabGreatDoor

/- LogTorn: the law's walk. -/
namespace Go.Proofs.YtikkieaokfailabGreatDoor
open Go.RowKit Go.Joins

def iv (ns : List Nat) : List Value := ns.map fun (n : Nat) => Value.int .i64 (n : Int)
/-- Where the records end. -/
def endsL (R : List (List Int)) : List Nat := (List.range R.length).map fun i => (forms (R.take (i + 1))).length
theorem endsL_len (R : List (List Int)) : (endsL R).length = R.length := by simp [endsL]
theorem endsL_snoc (R : List (List Int)) (r : List Int) : endsL (R ++ [r]) = endsL R ++ [(forms (R ++ [r])).length] := by
  unfold endsL
  rw [List.length_append, List.length_singleton, List.range_succ, List.map_append]
  congr 1
  · apply List.map_congr_left
    intro i hi
    rw [List.take_append_of_le_length (by have := List.mem_range.1 hi; omega)]
  · show [(forms ((R ++ [r]).take (R.length + 1))).length] = _
    rw [List.take_of_length_le (by simp)]
theorem tmS (z : Int) (s : Nat) (hs : s < 100000) : ∃ k : Nat, (wrap64 (wrap64 (z.tmod ((s : Int) + 1) + s) + 1)).tmod ((s : Int) + 1) = (k : Int) ∧ k ≤ s := by
  have h1 : z.tmod ((s : Int) + 1) < (s : Int) + 1 := Int.tmod_lt_of_pos z (by omega)
  have h2 : -((s : Int) + 1) < z.tmod ((s : Int) + 1) := by
    have : (-z).tmod ((s : Int) + 1) < (s : Int) + 1 := Int.tmod_lt_of_pos (-z) (by omega)
    rw [Int.neg_tmod] at this; omega
  have h3 : wrap64 (wrap64 (z.tmod ((s : Int) + 1) + s) + 1) = z.tmod ((s : Int) + 1) + s + 1 := by unfold wrap64; omega
  rw [h3, Int.tmod_eq_emod_of_nonneg (by omega)]
  have h4 := Int.emod_nonneg (z.tmod ((s : Int) + 1) + s + 1) (show (s : Int) + 1 ≠ 0 by omega)
  have h5 := Int.emod_lt_of_pos (z.tmod ((s : Int) + 1) + s + 1) (show (0 : Int) < (s : Int) + 1 by omega)
  exact ⟨((z.tmod ((s : Int) + 1) + s + 1) % ((s : Int) + 1)).toNat, by omega, by omega⟩

set_option maxRecDepth 100000 in
set_option maxHeartbeats 8000000 in
theorem logTorn_any (a : Option Addr) (n c : Nat) (xs : List (List Int)) (at_ : Int) (W : World) (hR : RRd W a n xs) (hP : Pw W) :
    Calls Tryz.prog 3 #[.slice a n c, .int .i64 at_] W fun e w' => e = .returned (.bool true) ∧ Below W.heap.size W w' := by
  have hN := new_ok 1000000 (by omega) W
  have hpl := hP.at
  have hnm := hR.most
  obtain ⟨kN, HkN⟩ : ∃ kN, Hid (newK 1000000 = kN) := ⟨_, rfl⟩
  have hon := open_new 1048576 1000000
  have hTz := TzI.new
  rw [HkN.out] at hN hon hTz
  have hkf : kN.fs.length ≤ 1000 := by rw [← HkN.out]; decide
  have hks : kN.steps < 800000 := by rw [← HkN.out]; decide
  have hku : used kN.fs ≤ 900000 := by rw [← HkN.out]; decide
  have Hop : Hid (openL 1048576 kN = (0, lg1 1048576, kN)) := hon
  have HTz : Hid (TzI (lg1 1048576) kN []) := hTz
  clear hon hTz
  go_enter Tryz.func3, Tryz.ntmps3
  go_upto_region 2 with (first
    | (go_at_call 4; refine hN.mono ?_; rintro e w1 ⟨d, rfl, ⟨F1, hD1, hF1⟩, hb1⟩))
  have hop := sopen_any w1 F1 d 1048576 kN (by omega) (by omega) hD1 (hP.below hb1) (fun i hi => by have := hF1 i hi; omega) hkf hks hku
  rw [Hop.out] at hop
  go_upto_region 3 with (first
    | (go_at_call 5; refine hop.mono ?_; rintro e w2 ho; obtain ⟨lb, rfl, hlb, F2, H2, hA2, hk2, hF2, hH2⟩ := ho.yes rfl))
  clear ho hop hkf hks hku Hop hN
  have hB2 : Below W.heap.size W w2 := hb1.trans (hk2.low hb1.size hF1)
  have hwk := swakes_any w2 (hP.below hB2)
  go_upto_block 0 with (first
    | (go_at_call 6; refine hwk.mono ?_; rintro e w3 ⟨rfl, hb3⟩))
  have hB3 : Below W.heap.size W w3 := hB2.trans (hb3.mono hB2.size)
  have hF2' : ∀ i, F2 i → W.heap.size ≤ i := fun i hi => (hF2 i hi).elim (hF1 i) (fun h => by have := hb1.size; omega)
  have hH2' : ∀ i, H2 i → W.heap.size ≤ i := fun i hi => by have := hH2 i hi; have := hb1.size; omega
  have hlbW : W.heap.size ≤ lb := by have := hb1.size; omega
  have hA3 := hA2.below hb3
  clear hA2 hb3 hwk hB2 hk2 hF2 hH2 hlb hD1 hF1 hb1
  go_cut [9, 10, 11, 12] from 39 to 66 (fun s9 s10 _ _ wx => ∃ (i sz : Nat) (l : Lg) (k : Dk) (R : List (List Int)) (F H : Nat → Prop) (al : Option Addr) (cl : Nat), s9 = .int .i64 sz ∧ s10 = .slice al i cl ∧ i ≤ n ∧ i ≤ 40 ∧ Hid ((forms R).length = sz) ∧ Hid (R.length = i) ∧ Hid (∀ j, j < i → R.getD j [] = (xs.getD j []).take 200) ∧ Hid (TzI l k R) ∧ Hid (LogAt wx F H lb d l k) ∧ Hid (∀ j, F j → W.heap.size ≤ j) ∧ Hid (∀ j, H j → W.heap.size ≤ j) ∧ Hid (wx.ownsRow W.heap.size 3 1 (.slice al i cl) i (iv (endsL R))) ∧ Hid (∀ g, (Value.slice al i cl).ownBlock = some g → ¬ F g ∧ ¬ H g ∧ g ≠ lb) ∧ Hid (Below W.heap.size W wx))
  case first =>
    go_wp2_with fail
    go_loopw [9, 10, 11, 12] (fun s9 s10 s11 _ wr => ∃ (i sz : Nat) (l : Lg) (k : Dk) (R : List (List Int)) (F H : Nat → Prop) (al : Option Addr) (cl : Nat), s9 = .int .i64 sz ∧ s10 = .slice al i cl ∧ s11 = .int .i64 i ∧ i ≤ n ∧ i ≤ 40 ∧ Hid ((forms R).length = sz) ∧ Hid (R.length = i) ∧ Hid (∀ j, j < i → R.getD j [] = (xs.getD j []).take 200) ∧ Hid (TzI l k R) ∧ Hid (LogAt wr F H lb d l k) ∧ Hid (∀ j, F j → W.heap.size ≤ j) ∧ Hid (∀ j, H j → W.heap.size ≤ j) ∧ Hid (wr.ownsRow W.heap.size 3 1 (.slice al i cl) i (iv (endsL R))) ∧ Hid (∀ g, (Value.slice al i cl).ownBlock = some g → ¬ F g ∧ ¬ H g ∧ g ≠ lb) ∧ Hid (Below W.heap.size W wr)) (fun _ _ s11 _ _ => 40 - (intOf s11).toNat)
    case atStart => exact ⟨0, 0, _, kN, [], F2, H2, none, 0, rfl, rfl, rfl, by omega, by omega, rfl, rfl, fun j hj => by omega, HTz.out, hA3, hF2', hH2', ⟨rfl, Or.inl ⟨rfl, rfl⟩⟩, fun g hg => by (cases hg), hB3⟩
    case round =>
      clear HTz hA3 hF2' hH2' hB3
      obtain ⟨i, sz, l, k, R, F, H, al, cl, rfl, rfl, rfl, hin, hi40, Hsz, HL, HX, HT, HA, HF, HH, HO, HN, HB⟩ := hrel
      have hszb : sz ≤ 8320 := by have h1 := forms_le R HT.out.rl; rw [Hsz.out, HL.out] at h1; omega
      by_cases hlt : i < n ∧ i < 40
      · have hcl : (i : Int) < (n : Int) := by omega
        have hcl40 : (i : Int) < 40 := by omega
        obtain ⟨b, off, rfl, hce⟩ := hR.flat (by omega)
        obtain ⟨aj, nj, cj, hcj, hrj⟩ := hce i hlt.1
        clear hce
        have hcj' := (HB.out.cell (p := ⟨b, off + i, none⟩) (World.block_lt_of_cell? W _ hcj)).trans hcj
        have hfew := few200 aj nj cj _ wr (hrj.carry (Nat.le_refl _) HB.out)
        have hrl : ((xs.getD i []).take 200).length ≤ 200 := by rw [List.length_take]; omega
        obtain ⟨e1, e2⟩ := HT.out.app (by rw [HL.out]; exact hlt.2) ((xs.getD i []).take 200) hrl (hrj.bytes.take 200)
        obtain ⟨v0, hL0, _⟩ := HA.out.ex
        have hFl := hL0.D.lt
        have hHl := HA.out.lt
        have hll := hL0.lt
        have hap := fun w hA a' n' c' hR' hRF => sappend_any w F H lb d l k hA (HT.out.ok (by rw [HL.out]; omega)) (by have := HT.out.st; rw [HL.out] at this; omega) (by have := HT.out.fs; rw [HL.out] at this; omega) a' n' c' ((xs.getD i []).take 200) hR' hRF
        rw [e1] at hap
        have hfs2 : (forms (R ++ [(xs.getD i []).take 200])).length = sz + (8 + ((xs.getD i []).take 200).length) := by rw [forms_snoc, List.length_append, formL_len, Hsz.out]
        have hgt : ∀ j, j < i + 1 → (R ++ [(xs.getD i []).take 200]).getD j [] = (xs.getD j []).take 200 := fun j hj => by
          rw [getD_snoc, HL.out]
          by_cases h1 : j < i
          · rw [if_pos h1]; exact HX.out j h1
          · obtain rfl : j = i := by omega
            rw [if_neg h1, if_pos rfl]
        have hen := endsL_snoc R ((xs.getD i []).take 200)
        rw [hfs2] at hen
        obtain ⟨r, Hr⟩ : ∃ r, Hid ((xs.getD i []).take 200 = r) := ⟨_, rfl⟩
        rw [Hr.out] at hfew e2 hap hrl hfs2 hen
        rw [Hr.out] at hgt
        obtain ⟨l', hl'⟩ : ∃ l', (appendT l k r).2.1 = l' := ⟨_, rfl⟩
        obtain ⟨k', hk'⟩ : ∃ k', (appendT l k r).2.2 = k' := ⟨_, rfl⟩
        rw [hl', hk'] at hap e2
        have HE2 : Hid (TzI l' k' (R ++ [r])) := e2
        have HGT : Hid (∀ j, j < i + 1 → (R ++ [r]).getD j [] = (xs.getD j []).take 200) := hgt
        have HFS : Hid ((forms (R ++ [r])).length = sz + (8 + r.length)) := hfs2
        have HEN : Hid (endsL (R ++ [r]) = endsL R ++ [sz + (8 + r.length)]) := hen
        clear hl' hk' e1 e2 hcj hrj hL0 hgt hfs2 hen
        go_upto_region 12 with (first
          | (go_at_call 7; refine hfew.mono ?_; rintro e w5 ⟨a5, n5, c5, rfl, hr5, hg5, hb5⟩; have hn5 : n5 ≤ 200 := (by have := hr5.len; omega)))
        have hB5 := HB.out.trans (hb5.mono HB.out.size)
        have o5 := own_keep (S := fun _ => False) HO.out (Keep.ofBelow hb5) (fun _ _ h => h)
        have hB5s := hB5.size
        go_upto_region 13 with (first
          | (at_builtin; refine wp_app1I rfl (.tmp 59) (.tmp 61) rfl W.heap.size _ i _ rfl o5 _ rfl (by omega) hB5s ?_; intro v6 w6 o6 hk6 hwh6; obtain ⟨a6, c6, rfl⟩ := own_sl o6))
        have hold : ∀ g, (Value.slice al i cl).ownBlock = some g → W.heap.size ≤ g ∧ g < wr.heap.size := fun g hg => HO.out.lt g hg
        have hA6 : LogAt w6 F H lb d l k := (HA.out.below hb5).keep hk6 (fun j hj hs => (HN.out j hs).1 hj) (fun j hj hs => (HN.out j hs).2.1 hj) (fun hs => (HN.out _ hs).2.2 rfl) (fun hs => by have := (hold _ hs).1; omega)
        have hr6 : Rd w6 a5 n5 c5 r := hr5.keep hk6 (fun ad had hs => by have := hg5 ad had; have := (hold _ hs).2; omega)
        have hap6 := hap w6 hA6 a5 n5 c5 hr6 (fun ad had => ⟨fun hf => by have := hFl _ hf; have := hg5 ad had; omega, fun e => by have := hg5 ad had; omega⟩)
        go_wp2_with (first
          | (go_at_call 8; refine hap6.mono ?_; rintro e w7 ⟨rfl, F7, H7, hA7, hk7, hF7, hH7⟩))
        have hB6 : Below W.heap.size W w6 := hB5.trans (hk6.low hB5.size (fun j hj => (hold j hj).1))
        have hB7 : Below W.heap.size W w7 := hB6.trans (hk7.low hB6.size (fun j hj => by
          rcases hj with hj | hj | hj
          · exact HF.out j hj
          · exact HH.out j hj
          · omega))
        have h6s := hk6.size
        have h5s := hb5.size
        have hnew : ∀ g, (Value.slice a6 (i + 1) c6).ownBlock = some g → ¬ F g ∧ ¬ H g ∧ g ≠ lb := fun g hg => by
          rcases hwh6 with h | ⟨g', h1, h2⟩
          · rw [h] at hg; exact HN.out g hg
          · rw [h1] at hg
            cases hg
            exact ⟨fun hf => by have := hFl _ hf; omega, fun hf => by have := hHl _ hf; omega, by omega⟩
        have o7 := own_keep o6 hk7 (fun g hg hs => by
          rcases hs with hs | hs | hs
          · exact (hnew g hg).1 hs
          · exact (hnew g hg).2.1 hs
          · exact (hnew g hg).2.2 hs)
        have hlen : n5 = r.length := hr5.len.symm
        have h6z := hB6.size
        go_roundw
        case measure => simp [intOf]; omega
        case rel =>
        refine ⟨i + 1, sz + (8 + n5), l', k', R ++ [r], F7, H7, a6, c6, by congr 1; omega, rfl, by go_num, by omega, by omega, ?_, ?_, HGT.out, HE2.out, hA7, ?_, ?_, ?_, ?_, hB7⟩
        · show _ = _
          rw [HFS.out, hlen]
        · show (R ++ [r]).length = i + 1
          rw [List.length_append, HL.out]
          rfl
        · exact fun j hj => (hF7 j hj).elim (HF.out j) (fun h => by omega)
        · exact fun j hj => (hH7 j hj).elim (HH.out j) (fun h => by omega)
        · show w7.ownsRow _ _ _ _ _ (iv (endsL (R ++ [r])))
          have e9 : iv (endsL R ++ [sz + (8 + r.length)]) = iv (endsL R) ++ [.int .i64 ((sz : Int) + 8 + (n5 : Int))] := by
            unfold iv
            rw [List.map_append]
            congr 1
            show [Value.int .i64 ((sz + (8 + r.length) : Nat) : Int)] = _
            rw [show ((sz + (8 + r.length) : Nat) : Int) = (sz : Int) + 8 + (n5 : Int) from by omega]
          rw [HEN.out, e9]
          exact o7
        · exact fun g hg => ⟨fun hf => (hF7 g hf).elim (hnew g hg).1 (fun h => by have := (o6.lt g hg).2; omega), fun hf => (hH7 g hf).elim (hnew g hg).2.1 (fun h => by have := (o6.lt g hg).2; omega), (hnew g hg).2.2⟩
      · have hend : ¬ (i : Int) < (n : Int) ∨ ((i : Int) < (n : Int) ∧ ¬ (i : Int) < 40) := by omega
        rcases hend with hcl | ⟨hcl, hcl40⟩ <;> (
          go_wp2
          go_meet
          exact ⟨i, sz, l, k, R, F, H, al, cl, rfl, rfl, hin, hi40, Hsz.out, HL.out, HX.out, HT.out, HA.out, HF.out, HH.out, HO.out, HN.out, HB.out⟩)
  case rest =>
  obtain ⟨i, sz, l, k, R, F, H, al, cl, rfl, rfl, hin, hi40, Hsz, HL, HX, HT, HA, HF, HH, HO, HN, HB⟩ := hcut
  obtain ⟨wr, hwr⟩ : ∃ wr, wr = wc := ⟨_, rfl⟩
  subst hwr
  clear HTz hA3 hF2' hH2' hB3
  have hszb : sz ≤ 8320 := by have h1 := forms_le R HT.out.rl; rw [Hsz.out, HL.out] at h1; omega
  by_cases hi0 : i = 0
  · have hsz0 : sz = 0 := by
      have h1 := Hsz.out
      rw [show R = [] from List.eq_nil_of_length_eq_zero (by rw [HL.out]; exact hi0)] at h1
      exact h1.symm
    subst hsz0
    go_wp2
    go_ret
    exact ⟨rfl, HB.out⟩
  · have hszp : 0 < sz := by
      have h1 := Hsz.out
      cases hR0 : R with
      | nil => have := HL.out; rw [hR0] at this; exact absurd this.symm hi0
      | cons r R' =>
        rw [hR0] at h1
        have h2 : (formL r ++ forms R').length = sz := h1
        rw [List.length_append, formL_len] at h2
        omega
    have hz0 : ((sz : Int) == 0) = false := by simp; omega
    have hz1 : ¬ (sz : Int) = 0 := by omega
    have hz2 : ¬ (sz : Int) + 1 = 0 := by omega
    obtain ⟨kk, hkk, hkks⟩ := tmS at_ sz (by omega)
    obtain ⟨k', tc1, tc2, tc3, tc4, tc5, tc6⟩ := torn_cut HT.out (by rw [HL.out]; omega) kk (by rw [Hsz.out]; exact hkks) 1048576
    obtain ⟨v0, hL0, _⟩ := HA.out.ex
    have hst0 := HT.out.st
    have hfs0 := HT.out.fs
    rw [HL.out] at hst0 hfs0 tc2 tc3 tc4
    have hcut := cut_any d F k ⟨#[108, 111, 103, 45, 49, 45, 49]⟩ (kk : Int) (by omega) (by omega) wr hL0.D
    rw [← seg11, tc1] at hcut
    rw [seg11] at hcut
    dsimp only at hcut
    obtain ⟨m, Hm⟩ : ∃ m, Hid (wholeN R kk = m) := ⟨_, rfl⟩
    have hmi : m ≤ i := by have := wholeN_le R kk; rw [Hm.out, HL.out] at this; exact this
    have HEi : Hid (∀ j, j < i → ((forms (R.take (j + 1))).length ≤ kk ↔ j < m)) := fun j hj => by rw [← Hm.out]; exact ends_iff R kk j (by rw [HL.out]; exact hj)
    rw [Hm.out] at tc6
    have HOp : Hid ((openL 1048576 k').1 = 0 ∧ (openL 1048576 k').2.1.recs = R.take m) := ⟨tc5, tc6⟩
    have HTl : Hid (∀ r ∈ R, r.length ≤ 200) := HT.out.rl
    clear hL0 tc1 tc5 tc6
    have h0s := HB.out.size
    go_upto_region 20 with (first
      | (go_at_call 9; refine hcut.mono ?_; rintro e w1 ⟨rfl, F1, hD1, hk1, hF1⟩))
    have hB1 : Below W.heap.size W w1 := HB.out.trans (hk1.low h0s HF.out)
    have hF1' : ∀ j, F1 j → W.heap.size ≤ j := fun j hj => (hF1 j hj).elim (HF.out j) (fun h => by omega)
    have HO1 : Hid (w1.ownsRow W.heap.size 3 1 (.slice al i cl) i (iv (endsL R))) := own_keep HO.out hk1 (fun g hg => (HN.out g hg).1)
    have HEl : Hid ((endsL R).length = i) := by show _ = _; rw [endsL_len, HL.out]
    clear hcut HO HA HT hk1 hF1 hkk
    go_wp2_with fail
    go_loopw [14, 15] (fun s14 s15 wq => ∃ j : Nat, s14 = .int .i64 ((min j m : Nat) : Int) ∧ s15 = .int .i64 j ∧ j ≤ i ∧ wq = w1) (fun _ s15 _ => i - (intOf s15).toNat)
    case atStart => exact ⟨0, by simp, rfl, by omega, rfl⟩
    case round =>
      obtain ⟨j, rfl, rfl, hji, hwq⟩ := hrel
      replace hwq := hwq.symm
      subst hwq
      by_cases hjlt : j < i
      · have hcj : (j : Int) < (i : Int) := by omega
        have hj0 : (0 : Int) ≤ (j : Int) := by omega
        obtain ⟨z, hz⟩ : ∃ z, (endsL R)[j]? = some z := ⟨_, List.getElem?_eq_getElem (by rw [HEl.out]; exact hjlt)⟩
        have hzv : (iv (endsL R))[j]? = some (.int .i64 (z : Int)) := by unfold iv; rw [List.getElem?_map, hz]; rfl
        have hze : z = (forms (R.take (j + 1))).length := by
          have h1 := hz
          unfold endsL at h1
          rw [List.getElem?_map, List.getElem?_range (by rw [HL.out]; exact hjlt)] at h1
          exact (Option.some.inj h1).symm
        obtain ⟨gr, hgr⟩ : ∃ g, al = some ⟨g, 0, none⟩ := by
          rcases HO1.out.2 with ⟨_, h0⟩ | ⟨g, cap, cur, h1, _⟩
          · omega
          · injection h1 with h1; exact ⟨g, h1⟩
        subst hgr
        have hc := HO1.out.cells (g := gr) rfl j _ hzv
        rw [add_flat, Nat.zero_add] at hc
        have hiff := HEi.out j hjlt
        rw [← hze] at hiff
        clear hz hzv hze
        by_cases hw : z ≤ kk
        · have hwz : (z : Int) ≤ (kk : Int) := by omega
          have hjm : j < m := hiff.1 hw
          have hmn : ((min j m : Nat) : Int) = (j : Int) := by omega
          rw [hmn]
          clear hiff hw
          go_wp2
          exact ⟨⟨j + 1, by rw [show min (j + 1) m = j + 1 from by omega]; go_num, by go_num, by omega, trivial⟩, by simp [intOf]; omega⟩
        · have hwz : ¬ (z : Int) ≤ (kk : Int) := by omega
          have hjm : ¬ j < m := fun h => hw (hiff.2 h)
          clear hiff hw
          go_wp2
          exact ⟨⟨j + 1, by rw [show min (j + 1) m = min j m from by omega], by go_num, by omega, trivial⟩, by simp [intOf]; omega⟩
      · have hcj : ¬ (j : Int) < (i : Int) := by omega
        have hmn : ((min j m : Nat) : Int) = (m : Int) := by omega
        rw [hmn]
        have hop := sopen_any w1 F1 d 1048576 k' (by omega) (by omega) hD1 (hP.below hB1) (fun j hj => by have := hF1' j hj; omega) (by omega) (by omega) (by omega)
        obtain ⟨ho1, ho2⟩ := HOp.out
        obtain ⟨Q, HQ⟩ : ∃ Q, openL 1048576 k' = Q := ⟨_, rfl⟩
        rw [HQ] at hop ho1 ho2
        obtain ⟨en, l5, k5⟩ := Q
        dsimp only at ho1 ho2
        subst ho1
        have hM : l5.recs.length = m := by rw [ho2, List.length_take, HL.out]; omega
        have HM : Hid (l5.recs.length = m) := hM
        have HR5 : Hid (l5.recs = R.take m) := ho2
        clear HQ hM ho2 hD1
        go_upto_region 27 with (first
          | (go_at_call 5; refine hop.mono ?_; rintro e w5 ho; obtain ⟨lb5, rfl, hlb5, F5, H5, hA5, hk5, hF5, hH5⟩ := ho.yes rfl))
        have h5s := hk5.size
        have hB5 : Below W.heap.size W w5 := hB1.trans (hk5.low hB1.size hF1')
        have hln := slen_any w5 F5 H5 lb5 d l5 k5 hA5
        rw [HM.out] at hln
        have z1 : ((m : Int) != (m : Int)) = false := by simp
        have HA5 : Hid (LogAt w5 F5 H5 lb5 d l5 k5) := hA5
        clear hop ho hA5
        go_upto_region 29 with (first
          | (go_at_call 10; refine hln.mono ?_; rintro e w6 ⟨rfl, h6⟩; replace h6 := h6.symm; subst h6))
        clear hln
        go_wp2_with fail
        go_loopw [17, 18, 19] (fun s17 _ _ wq => ∃ q : Nat, s17 = .int .i64 q ∧ q ≤ m ∧ Hid (Below w5.heap.size w5 wq)) (fun s17 _ _ _ => m - (intOf s17).toNat)
        case atStart => exact ⟨0, rfl, by omega, Below.refl _ _⟩
        case round =>
          obtain ⟨q, rfl, hqm, HBq⟩ := hrel
          have hBq : Below W.heap.size W wr := hB5.trans (HBq.out.mono hB5.size)
          by_cases hqlt : q < m
          · have hcq : (q : Int) < (m : Int) := by omega
            have hq0 : (0 : Int) ≤ (q : Int) := by omega
            obtain ⟨x, hx⟩ : ∃ x, l5.recs[q]? = some x := ⟨_, List.getElem?_eq_getElem (by rw [HM.out]; exact hqlt)⟩
            have hxr : (xs.getD q []).take 200 = x := by
              rw [← HX.out q (by omega), List.getD_eq_getElem?_getD]
              have h1 := hx
              rw [HR5.out, List.getElem?_take, if_pos hqlt] at h1
              rw [h1]
              rfl
            have hrl : ∀ r ∈ l5.recs, r.length ≤ 1000000000 := fun r hr => by
              rw [HR5.out] at hr
              have := HTl.out r (List.mem_of_mem_take hr)
              omega
            have hat := sat_any _ F5 H5 lb5 d l5 k5 (q : Int) (by omega) (HA5.out.below HBq.out) hrl
            have hatL : atL l5 (q : Int) = some x := by
              unfold atL
              rw [if_neg (by omega), Int.toNat_natCast]
              exact hx
            rw [hatL] at hat
            dsimp only [Option.isSome_some, Option.getD_some] at hat
            obtain ⟨b, off, rfl, hce⟩ := hR.flat (by omega)
            obtain ⟨aj, nj, cj, hcj2, hrj⟩ := hce q (by omega)
            have hqn : (q : Int) < (n : Int) := by omega
            clear hce hx hatL hrl
            go_upto_region 33 with (first
              | (go_at_call 11; refine hat.mono ?_; rintro e w7 ⟨u7, rfl, o7, hbd7, hb7⟩; obtain ⟨a7, c7, rfl, r7⟩ := Rd.ofOwn o7 hbd7))
            have hB7 : Below W.heap.size W w7 := hBq.trans (hb7.mono hBq.size)
            have hcj7 : w7.drew.cell? ⟨b, off + q, none⟩ = some (.slice aj nj cj) := (hB7.cell (p := ⟨b, off + q, none⟩) (World.block_lt_of_cell? W _ hcj2)).trans hcj2
            have hbD : Below w7.heap.size w7 w7.drew := (Below.refl _ _).drew
            have hrj7 := (hrj.carry (Nat.le_refl _) hB7).carry (Nat.le_refl _) hbD
            have hr7 := r7.carry (Nat.le_refl _) hbD
            have hB8 : Below w5.heap.size w5 w7.drew := (HBq.out.trans (hb7.mono HBq.out.size)).drew
            obtain ⟨str, Hstr⟩ : ∃ str, Hid (strOfNums x = str) := ⟨_, rfl⟩
            have HS0 : Rd w7.drew a7 x.length c7 x ∧ w7.drew.cell? ⟨b, off + q, none⟩ = some (.slice aj nj cj) := ⟨hr7, hcj7⟩
            have hsS : ∀ w', Rd w' a7 x.length c7 x → (convert 32 9 (.slice a7 x.length c7)).run Tryz.prog w' = .ok (.string str) w' := fun w' h => by
              have := h.string
              rw [Hstr.out] at this
              exact this
            clear hat o7 hbd7 hb7 r7 hcj2 hrj
            refine wp_region_lx (fun w' => Rd w' a7 x.length c7 x ∧ w'.cell? ⟨b, off + q, none⟩ = some (.slice aj nj cj)) [] 9 (by kernel_rfl) (by kernel_rfl) ?_
            generalize w7.drew = X at *
            refine lx_rd 0 (.slice a7 x.length c7) (by kernel_rfl) (fun _ _ d _ _ h => by cases d <;> exact h) (by kernel_rfl) HS0 rfl rfl rfl (fun w' hS => ?ha0) ?_
            case ha0 => first | (go_simp; rfl) | go_simp
            simp only [List.setIfInBounds_toArray, List.set_cons_zero, List.set_cons_succ]
            refine lx_rd 1 (.string str) (by kernel_rfl) (fun _ _ d _ _ h => by cases d <;> exact h) (by kernel_rfl) HS0 rfl rfl rfl (fun w' hS => ?ha1) ?_
            case ha1 => have qq := hsS _ hS.1; first | (go_simp; rfl) | go_simp
            simp only [List.setIfInBounds_toArray, List.set_cons_zero, List.set_cons_succ]
            refine lx_rd 2 (.slice (some ⟨b, off, none⟩) n c) (by kernel_rfl) (fun _ _ d _ _ h => by cases d <;> exact h) (by kernel_rfl) HS0 rfl rfl rfl (fun w' hS => ?ha2) ?_
            case ha2 => first | (go_simp; rfl) | go_simp
            simp only [List.setIfInBounds_toArray, List.set_cons_zero, List.set_cons_succ]
            refine lx_rd 3 (.int .i64 q) (by kernel_rfl) (fun _ _ d _ _ h => by cases d <;> exact h) (by kernel_rfl) HS0 rfl rfl rfl (fun w' hS => ?ha3) ?_
            case ha3 => first | (go_simp; rfl) | go_simp
            simp only [List.setIfInBounds_toArray, List.set_cons_zero, List.set_cons_succ]
            refine lx_rd 4 (.pointer (some ⟨b, off + q, none⟩)) (by kernel_rfl) (fun _ _ d _ _ h => by cases d <;> exact h) (by kernel_rfl) HS0 rfl rfl rfl (fun w' hS => ?ha4) ?_
            case ha4 => first | (go_simp; rfl) | go_simp
            simp only [List.setIfInBounds_toArray, List.set_cons_zero, List.set_cons_succ]
            refine lx_rd 5 (.slice aj nj cj) (by kernel_rfl) (fun _ _ d _ _ h => by cases d <;> exact h) (by kernel_rfl) HS0 rfl rfl rfl (fun w' hS => ?ha5) ?_
            case ha5 => have qq := hS.2; first | (go_simp; rfl) | go_simp
            simp only [List.setIfInBounds_toArray, List.set_cons_zero, List.set_cons_succ]
            refine lx_one 6 (by kernel_rfl) (stepT_call 7 ?a6 rfl rfl rfl ?r6 ?_)
            case r6 => first | (go_simp; rfl) | go_simp
            refine (few200 aj nj cj _ X hrj7).mono ?_
            rintro e w8 ⟨a8, n8, c8, rfl, hr8, hg8, hb8⟩
            rw [hxr] at hr8
            have HS8 : Rd w8 a7 x.length c7 x ∧ w8.cell? ⟨b, off + q, none⟩ = some (.slice aj nj cj) := ⟨hr7.carry (Nat.le_refl _) hb8, (hb8.cell (p := ⟨b, off + q, none⟩) (World.block_lt_of_cell? _ _ hcj7)).trans hcj7⟩
            have hs8 := hr8.string
            rw [Hstr.out] at hs8
            refine ⟨_, rfl, fun _ => HS8, ?_⟩
            simp only [List.setIfInBounds_toArray, List.set_cons_zero, List.set_cons_succ]
            refine lx_one 7 (by kernel_rfl) (stepT_val (w' := w8) (.string str) rfl rfl rfl ?r7 (fun _ => HS8) ?_)
            case r7 => first | (go_simp; rfl) | go_simp
            simp only [List.setIfInBounds_toArray, List.set_cons_zero, List.set_cons_succ]
            refine lx_one 8 (by kernel_rfl) (stepT_val (w' := w8) (.bool false) rfl rfl rfl ?r8 (fun _ => HS8) ?_)
            case r8 => first | (go_simp; rfl) | go_simp
            simp only [List.setIfInBounds_toArray, List.set_cons_zero, List.set_cons_succ]
            refine lx_nil (by kernel_rfl) ?_
            have hB9 : Below w5.heap.size w5 w8 := hB8.trans (hb8.mono hB8.size)
            go_wp2
            go_roundw
            case rel => exact ⟨q + 1, by go_num, by omega, hB9⟩
            case measure => simp [intOf]; omega
          · have hcq : ¬ (q : Int) < (m : Int) := by omega
            go_wp2
            go_ret
            exact ⟨rfl, hBq⟩

end Go.Proofs.YtikkieaokfailabGreatDoor
