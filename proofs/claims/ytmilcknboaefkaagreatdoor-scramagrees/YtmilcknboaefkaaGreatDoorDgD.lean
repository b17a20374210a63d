/- digest.mixed. -/
import Derived.Test.YtmilcknboaefkaaGreatDoorDgC
set_option maxRecDepth 100000
namespace Go.Proofs.YtmilcknboaefkaaGreatDoor
open Go.RowKit

/-- The eight words that a round turns. -/
structure S8 where
  a : Int
  b : Int
  c : Int
  d : Int
  e : Int
  f : Int
  g : Int
  h : Int
def S8.of (l : List Int) : S8 := ⟨l.getD 0 0, l.getD 1 0, l.getD 2 0, l.getD 3 0, l.getD 4 0, l.getD 5 0, l.getD 6 0, l.getD 7 0⟩
def S8.l (s : S8) : List Int := [s.a, s.b, s.c, s.d, s.e, s.f, s.g, s.h]
def t1of (s : S8) (k w : Int) : Int := ad (ad (ad (ad s.h (wS1 s.e)) (wch s.e s.f s.g)) k) w
def t2of (s : S8) : Int := ad (wS0 s.a) (wmaj s.a s.b s.c)
def S8.step (s : S8) (k w : Int) : S8 := ⟨ad (t1of s k w) (t2of s), s.a, s.b, s.c, ad s.d (t1of s k w), s.e, s.f, s.g⟩
def rnds (ks ws : List Int) (s : S8) : Nat → S8
  | 0 => s
  | t + 1 => (rnds ks ws s t).step (ks.getD t 0) (ws.getD t 0)
/-- The sums at the end of a block. -/
def fin8 (hs vs : List Int) : Nat → List Int
  | 0 => hs
  | i + 1 => (fin8 hs vs i).set i (ad ((fin8 hs vs i).getD i 0) (vs.getD i 0))
theorem fin8_len (hs vs : List Int) (h : hs.length = 8) : ∀ i, (fin8 hs vs i).length = 8
  | 0 => h
  | i + 1 => by simp [fin8, fin8_len hs vs h i]

def kws : List Int := [1116352408, 1899447441, 3049323471, 3921009573, 961987163, 1508970993, 2453635748, 2870763221, 3624381080, 310598401, 607225278, 1426881987, 1925078388, 2162078206, 2614888103, 3248222580, 3835390401, 4022224774, 264347078, 604807628, 770255983, 1249150122, 1555081692, 1996064986, 2554220882, 2821834349, 2952996808, 3210313671, 3336571891, 3584528711, 113926993, 338241895, 666307205, 773529912, 1294757372, 1396182291, 1695183700, 1986661051, 2177026350, 2456956037, 2730485921, 2820302411, 3259730800, 3345764771, 3516065817, 3600352804, 4094571909, 275423344, 430227734, 506948616, 659060556, 883997877, 958139571, 1322822218, 1537002063, 1747873779, 1955562222, 2024104815, 2227730452, 2361852424, 2428436474, 2756734187, 3204031479, 3329325298]
def h0s : List Int := [1779033703, 3144134277, 1013904242, 2773480762, 1359893119, 2600822924, 528734635, 1541459225]
def mix (hs bl : List Int) : List Int := fin8 hs (rnds kws (words bl) (S8.of hs) 64).l 8
theorem mix_len (hs bl : List Int) (h : hs.length = 8) : (mix hs bl).length = 8 := fin8_len _ _ h 8

/-- The package's two tables, as cells. -/
structure Kt (w : World) : Prop where
  k : ∀ j, j < 64 → w.cell? ⟨3, j, none⟩ = some (.int .u32 (kws.getD j 0))
  h : ∀ j, j < 8 → w.cell? ⟨0, j, none⟩ = some (.int .u32 (h0s.getD j 0))
theorem Kt.below {w w' : World} (h : Kt w) {B : Nat} (hB : w.heap.size ≤ B) (hb : Below B w w') : Kt w' :=
  ⟨fun j hj => by have := h.k j hj; rw [hb.cell (Nat.lt_of_lt_of_le (World.block_lt_of_cell? w _ this) hB)]; exact this,
   fun j hj => by have := h.h j hj; rw [hb.cell (Nat.lt_of_lt_of_le (World.block_lt_of_cell? w _ this) hB)]; exact this⟩
theorem Kt.keep {S : Nat → Prop} {w w' : World} (h : Kt w) (hk : Keep S w w') (h0 : ¬ S 0) (h1 : ¬ S 3) : Kt w' := ⟨fun j hj => hk.cell (h.k j hj) h1, fun j hj => hk.cell (h.h j hj) h0⟩
theorem Kt.lt {w : World} (h : Kt w) : 0 < w.heap.size ∧ 3 < w.heap.size := ⟨World.block_lt_of_cell? w _ (h.h 0 (by omega)), World.block_lt_of_cell? w _ (h.k 0 (by omega))⟩
theorem Kt.drewN {w : World} (h : Kt w) (n : Nat) : Kt (w.drewN n) := ⟨h.k, h.h⟩

theorem t1_eq (s : S8) (x y : Int) : (s.h + wS1 s.e + wch s.e s.f s.g + x + y) % 4294967296 = t1of s x y := by simp [t1of, ad, Int.emod_add_emod]
theorem t2_eq (s : S8) : (wS0 s.a + wmaj s.a s.b s.c) % 4294967296 = t2of s := rfl
/-- What stands in memory while a block is mixed in. -/
structure MxW (w : World) (g1 g3 g5 : Nat) (hs os bl : List Int) (wr : World) : Prop where
  k : Kt wr
  s : Ar wr g1 90 .u32 hs
  o : Ar wr g3 90 .u32 os
  ws : Ar wr g5 98 .u32 (words bl)
  b : Below w.heap.size w wr
theorem MxW.drewN {w wr : World} {g1 g3 g5 : Nat} {hs os bl : List Int} (h : MxW w g1 g3 g5 hs os bl wr) (n : Nat) : MxW w g1 g3 g5 hs os bl (wr.drewN n) :=
  ⟨h.k.drewN n, h.s, h.o, h.ws, ⟨h.b.os, h.b.tape, h.b.output, h.b.size, h.b.block⟩⟩

set_option maxRecDepth 100000 in
set_option maxHeartbeats 1600000 in
theorem mixed_any (hs bl : List Int) (w : World) (hh : hs.length = 8) (hl : bl.length = 64) (hB : Bd bl) (hK : Kt w) :
    Calls Tryz.prog 80 #[.agg (ic .u32 hs).toArray, .agg (ic .u8 bl).toArray] w fun e w' => e = .returned (.agg (ic .u32 (mix hs bl)).toArray) ∧ Below w.heap.size w w' := by
  go_enter Tryz.func80, Tryz.ntmps80
  go_wp2_with (first
    | (refine wp_box_ar rfl 90 (.tmp 0) rfl .u32 hs rfl ?_; intro g1 w1 A1 hg1 hb1)
    | (refine wp_box_ar rfl 123 (.tmp 1) rfl .u8 bl rfl ?_; intro g2 w2 A2 hg2 hb2)
    | (refine wp_alloc_ar rfl 90 rfl .u32 (List.replicate 8 0) 8 Tryz.z45 ?_; intro g3 w3 A3 hg3 hb3)
    | (refine wp_load_ar rfl 123 (.tmp 3) rfl _ rfl 123 .u8 bl 5 64 (A2.below hb3 A2.lt) Tryz.u55 hl ?_)
    | (go_at_call 96; refine (wordsOf_any bl _ hl hB).mono ?_; rintro e w4 ⟨rfl, hb4⟩)
    | (refine wp_alloc_ar rfl 98 rfl .u32 (List.replicate 64 0) 64 Tryz.z46 ?_; intro g5 w5 A5 hg5 hb5)
    | (refine wp_store_ar rfl 98 (.tmp 5) (.tmp 20) rfl _ rfl .u32 (words bl) rfl 98 _ A5 (by rw [words_len]; rfl) (by rw [words_len]; exact (size_of Tryz.u46).2) ?_; intro w6 A6 hk6 hs6))
  have HB : Hid (Below w.heap.size w w6) := ((((hb1.trans (hb2.mono hb1.size)).trans (hb3.mono (Nat.le_trans hb1.size hb2.size))).trans (hb4.mono (Nat.le_trans hb1.size (Nat.le_trans hb2.size hb3.size)))).trans (hb5.mono (Nat.le_trans hb1.size (Nat.le_trans hb2.size (Nat.le_trans hb3.size hb4.size))))).trans (hk6.below (by have := hb1.size; have := hb2.size; have := hb3.size; have := hb4.size; have := hb5.size; omega) (fun j hj => by have := hb1.size; have := hb2.size; have := hb3.size; have := hb4.size; omega))
  have hA1lt := A1.lt
  have hA3lt := A3.lt
  have h12 := hb2.size
  have h23 := hb3.size
  have h34 := hb4.size
  have h45 := hb5.size
  have B1 : Ar w6 g1 90 .u32 hs := ((((A1.below hb2 A1.lt).below hb3 (by omega)).below hb4 (by omega)).below hb5 (by omega)).keep hk6 (by omega)
  have B3 : Ar w6 g3 90 .u32 (List.replicate 8 0) := ((A3.below hb4 A3.lt).below hb5 (by omega)).keep hk6 (by omega)
  have hK6 : Kt w6 := hK.below (Nat.le_refl _) HB.out
  have h13 : g1 ≠ g3 := by omega
  have h15 : g1 ≠ g5 := by omega
  have h35 : g3 ≠ g5 := by omega
  have hg : w.heap.size ≤ g1 ∧ w.heap.size ≤ g3 := ⟨hg1, by have := hb1.size; omega⟩
  have HM : MxW w g1 g3 g5 hs (List.replicate 8 0) bl w6 := ⟨hK6, B1, B3, A6, HB.out⟩
  clear hA1lt hA3lt h12 h23 h34 h45 hk6 hb1 hb2 hb3 hb4 hb5 A1 A2 A3 A5 hg1 hg2 hg3 hg5 hs6 hB hl hK
  have c0 := B1.cell (j := 0) (by omega)
  have c1 := B1.cell (j := 1) (by omega)
  have c2 := B1.cell (j := 2) (by omega)
  have c3 := B1.cell (j := 3) (by omega)
  have c4 := B1.cell (j := 4) (by omega)
  have c5 := B1.cell (j := 5) (by omega)
  have c6 := B1.cell (j := 6) (by omega)
  have c7 := B1.cell (j := 7) (by omega)
  obtain ⟨s0, HS⟩ : ∃ s, Hid (S8.of hs = s) := ⟨_, rfl⟩
  rw [show hs.getD 0 0 = s0.a from by rw [← HS.out]; rfl] at c0
  rw [show hs.getD 1 0 = s0.b from by rw [← HS.out]; rfl] at c1
  rw [show hs.getD 2 0 = s0.c from by rw [← HS.out]; rfl] at c2
  rw [show hs.getD 3 0 = s0.d from by rw [← HS.out]; rfl] at c3
  rw [show hs.getD 4 0 = s0.e from by rw [← HS.out]; rfl] at c4
  rw [show hs.getD 5 0 = s0.f from by rw [← HS.out]; rfl] at c5
  rw [show hs.getD 6 0 = s0.g from by rw [← HS.out]; rfl] at c6
  rw [show hs.getD 7 0 = s0.h from by rw [← HS.out]; rfl] at c7
  go_quiet (fail)
  clear c0 c1 c2 c3 c4 c5 c6 c7 hK6 B1 B3 A6 HB
  go_wp2
  go_loopw [6, 7, 8, 9, 10, 11, 12, 13, 37] (fun a b c d e f g h i wr => ∃ k : Nat, ∃ s : S8, k ≤ 64 ∧ i = .int .i64 k ∧ Hid (rnds kws (words bl) s0 k = s) ∧ a = .int .u32 s.a ∧ b = .int .u32 s.b ∧ c = .int .u32 s.c ∧ d = .int .u32 s.d ∧ e = .int .u32 s.e ∧ f = .int .u32 s.f ∧ g = .int .u32 s.g ∧ h = .int .u32 s.h ∧ MxW w g1 g3 g5 hs (List.replicate 8 0) bl wr) (fun _ _ _ _ _ _ _ _ i _ => 64 - (intOf i).toNat)
  case atStart => exact ⟨0, s0, by omega, rfl, rfl, rfl, rfl, rfl, rfl, rfl, rfl, rfl, rfl, HM.drewN nq⟩
  case round =>
    obtain ⟨k, s, hk, rfl, HR, rfl, rfl, rfl, rfl, rfl, rfl, rfl, rfl, HM⟩ := hrel
    by_cases hlt : k < 64
    · have ck := HM.k.k k hlt
      have cw := HM.ws.cell (j := k) (by rw [words_len]; exact hlt)
      have HL : Hid (k ≤ 64) := hk
      obtain ⟨x, HX⟩ : ∃ x, Hid (kws.getD k 0 = x) := ⟨_, rfl⟩
      obtain ⟨y, HY⟩ : ∃ x, Hid ((words bl).getD k 0 = x) := ⟨_, rfl⟩
      rw [HX.out] at ck
      rw [HY.out] at cw
      have hcl : (k : Int) < 64 := by omega
      clear hk
      go_wp2_with fail
      go_quiet ((first | (go_at_call 97; exact Calls.quiet_of_same (bigS1_any _ _)) | (go_at_call 98; exact Calls.quiet_of_same (choice_any _ _ _ _))))
      go_wp2_with (first | (go_at_call 99; refine (bigS0_any _ _).mono ?_; rintro e w' ⟨rfl, rfl⟩) | (go_at_call 100; refine (majority_any _ _ _ _).mono ?_; rintro e w' ⟨rfl, rfl⟩))
      refine ⟨⟨k + 1, s.step x y, by omega, by go_num, by show rnds _ _ _ (k + 1) = _; unfold rnds; rw [HR.out, HX.out, HY.out], ?_, rfl, rfl, rfl, ?_, rfl, rfl, rfl, HM.drewN _⟩, by simp [intOf]; omega⟩
      · rw [t1_eq, t2_eq]; rfl
      · rw [t1_eq]; rfl
    · obtain rfl : k = 64 := by omega
      have hcl : ¬ ((64 : Nat) : Int) < 64 := by omega
      have HF := fin8_len hs s.l hh
      have HM1 := HM.s
      have HM3 := HM.o
      have HMb := HM.b
      have HE : Hid (fin8 hs s.l 8 = mix hs bl) := by unfold mix; rw [HS.out, HR.out]; exact rfl
      clear HM HS HR hk hlt
      go_wp2_with fail
      go_loopw [86] (fun i wr => ∃ k : Nat, k ≤ 8 ∧ i = .int .i64 k ∧ Ar wr g1 90 .u32 (fin8 hs s.l k) ∧ Ar wr g3 90 .u32 (List.replicate 8 0) ∧ Below w.heap.size w wr) (fun i _ => 8 - (intOf i).toNat)
      case atStart => exact ⟨0, by omega, rfl, HM1, HM3, HMb⟩
      case round =>
        clear HM1 HM3 HMb
        obtain ⟨k, hk, rfl, A1, A3, hbk⟩ := hrel
        have HB : Hid (Below w.heap.size w wr) := hbk
        clear hbk
        by_cases hlt : k < 8
        · have hcl2 : (k : Int) < 8 := by omega
          have hix : ∀ w, (Instr.index 89 (.agg #[.int .u32 s.a, .int .u32 s.b, .int .u32 s.c, .int .u32 s.d, .int .u32 s.e, .int .u32 s.f, .int .u32 s.g, .int .u32 s.h]) (.int .i64 (k : Int))).run Tryz.prog w = .ok (.int .u32 (s.l.getD k 0)) w := fun w => run_index_ar (P := Tryz.prog) w 89 88 8 .u32 s.l k (by kernel_rfl) (by kernel_rfl) (by kernel_rfl) rfl hlt
          have hc := A1.cell (j := k) (by rw [HF]; exact hlt)
          have hf := A1.fz k
          obtain ⟨x, HX⟩ : ∃ x, Hid (s.l.getD k 0 = x) := ⟨_, rfl⟩
          obtain ⟨y, HY⟩ : ∃ x, Hid ((fin8 hs s.l k).getD k 0 = x) := ⟨_, rfl⟩
          rw [HX.out] at hix
          rw [HY.out] at hc
          clear HF hh
          go_wp2
          refine ⟨⟨k + 1, by omega, by go_num, ?_, A3.other (fun e => h13 e.symm) _, HB.out.setCell (show w.heap.size ≤ g1 from hg.1) _⟩, by simp [intOf]; omega⟩
          have := A1.set k (ad y x)
          unfold fin8; rw [HX.out, HY.out]; exact this
        · obtain rfl : k = 8 := by omega
          have hcl2 : ¬ ((8 : Nat) : Int) < 8 := by omega
          have hi45 := (size_of Tryz.u45).2
          have h8 := HF 8
          clear HF
          go_wp2_with (first
            | (refine wp_load_ar rfl 90 (.tmp 2) rfl _ rfl 90 .u32 (fin8 hs s.l 8) 88 8 A1 Tryz.u45 h8 ?_)
            | (refine wp_store_ar rfl 90 (.tmp 4) (.tmp 97) rfl _ rfl .u32 (fin8 hs s.l 8) rfl 90 _ A3 (by rw [h8]; rfl) (by rw [h8]; exact hi45) ?_; intro w3 A3' hk3 hs3))
          refine bodyPost_ret (v := .agg (ic .u32 (mix hs bl)).toArray) (ar_results rfl _ _ g3 90 .u32 (mix hs bl) 88 8 rfl (HE.out ▸ A3') Tryz.u45 (HE.out ▸ h8)) rfl ⟨rfl, ?_⟩
          exact HB.out.trans (hk3.below HB.out.size (fun j hj => by omega))

end Go.Proofs.YtmilcknboaefkaaGreatDoor
