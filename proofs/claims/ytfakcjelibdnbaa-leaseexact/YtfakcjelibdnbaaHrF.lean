/- LeaseExact: the law's walk. -/
import Derived.Test.YtfakcjelibdnbaaHrE
import Derived.Deep.CutBlock
import Derived.Deep.CutRange
namespace Go.Proofs.Ytfakcjelibdnbaa
open Go.RowKit Go.Joins

theorem and_one (x : Int) : bits .and .i64 x 1 = 0 ∨ bits .and .i64 x 1 = 1 := by
  have h1 : (BitVec.ofInt 64 1).toNat = 1 := by decide
  have h2 : bits .and .i64 x 1 = IntKind.i64.wrap (((BitVec.ofInt 64 x &&& BitVec.ofInt 64 1).toNat : Nat) : Int) := rfl
  rw [h2, BitVec.toNat_and, h1, Nat.and_one_is_mod]
  rcases Nat.mod_two_eq_zero_or_one (BitVec.ofInt 64 x).toNat with h | h
  · rw [h]; left; decide
  · rw [h]; right; decide

theorem ri_new (w : World) : RI (w.alloc (.cells #[.slice none 0 0, .slice none 0 0] 31)) w.heap.size [] none 0 none 0 :=
  ⟨alloc_at w _, ⟨rfl, .inl ⟨rfl, rfl⟩⟩, ⟨rfl, .inl ⟨rfl, rfl⟩⟩⟩

def pq (q : Nat) : Value := .pointer (some ⟨q, 0, none⟩)
/-- The law's two rows of heaps. -/
structure Ar (w : World) (bh : Nat) (p0 p1 s0 s1 : Value) : Prop where
  A : w.heap[bh]? = some (.cells #[p0, p1] 24 (0, 0))
  B : w.heap[bh + 1]? = some (.cells #[s0, s1] 26 (0, 0))
theorem Ar.keep {S : Nat → Prop} {w w' : World} {bh : Nat} {p0 p1 s0 s1 : Value} (h : Ar w bh p0 p1 s0 s1) (hk : Keep S w w') (h1 : ¬ S bh) (h2 : ¬ S (bh + 1)) : Ar w' bh p0 p1 s0 s1 :=
  ⟨(hk.block bh (Array.getElem?_eq_some_iff.1 h.A).1 h1).trans h.A, (hk.block (bh + 1) (Array.getElem?_eq_some_iff.1 h.B).1 h2).trans h.B⟩
theorem Ar.below {w w' : World} {bh : Nat} {p0 p1 s0 s1 : Value} (h : Ar w bh p0 p1 s0 s1) (hb : Below w.heap.size w w') : Ar w' bh p0 p1 s0 s1 := h.keep (S := fun _ => False) (Keep.ofBelow hb) (fun h => h) (fun h => h)
section
variable {w : World} {bh : Nat} {p0 p1 s0 s1 : Value}
theorem Ar.a0 (h : Ar w bh p0 p1 s0 s1) : w.cell? ⟨bh, 0, none⟩ = some p0 := by rw [cell_of_block h.A]; rfl
theorem Ar.a1 (h : Ar w bh p0 p1 s0 s1) : w.cell? ⟨bh, 1, none⟩ = some p1 := by rw [cell_of_block h.A]; rfl
theorem Ar.b0 (h : Ar w bh p0 p1 s0 s1) : w.cell? ⟨bh + 1, 0, none⟩ = some s0 := by rw [cell_of_block h.B]; rfl
theorem Ar.b1 (h : Ar w bh p0 p1 s0 s1) : w.cell? ⟨bh + 1, 1, none⟩ = some s1 := by rw [cell_of_block h.B]; rfl
theorem Ar.fa (h : Ar w bh p0 p1 s0 s1) (i : Nat) : w.frozen? ⟨bh, i, none⟩ = false := unfrozen_of_block h.A i
theorem Ar.fb (h : Ar w bh p0 p1 s0 s1) (i : Nat) : w.frozen? ⟨bh + 1, i, none⟩ = false := unfrozen_of_block h.B i
theorem Ar.setA0 (h : Ar w bh p0 p1 s0 s1) (v : Value) : Ar (w.setCell ⟨bh, 0, none⟩ v) bh v p1 s0 s1 := ⟨block_setCell h.A _, (set_other (p := ⟨bh, 0, none⟩) (by show bh + 1 ≠ bh; omega)).trans h.B⟩
theorem Ar.setA1 (h : Ar w bh p0 p1 s0 s1) (v : Value) : Ar (w.setCell ⟨bh, 1, none⟩ v) bh p0 v s0 s1 := ⟨block_setCell h.A _, (set_other (p := ⟨bh, 1, none⟩) (by show bh + 1 ≠ bh; omega)).trans h.B⟩
theorem Ar.setB0 (h : Ar w bh p0 p1 s0 s1) (v : Value) : Ar (w.setCell ⟨bh + 1, 0, none⟩ v) bh p0 p1 v s1 := ⟨(set_other (p := ⟨bh + 1, 0, none⟩) (by show bh ≠ bh + 1; omega)).trans h.A, block_setCell h.B _⟩
theorem Ar.setB1 (h : Ar w bh p0 p1 s0 s1) (v : Value) : Ar (w.setCell ⟨bh + 1, 1, none⟩ v) bh p0 p1 s0 v := ⟨(set_other (p := ⟨bh + 1, 1, none⟩) (by show bh ≠ bh + 1; omega)).trans h.A, block_setCell h.B _⟩
end

/-- A new pair, and what its making leaves; o: the place in the rows. -/
theorem pair_new {wx w1 : World} {F : Nat → Prop} {q bh o : Nat} (h : Nw wx w1 F q 0 []) (hs : bh + 2 ≤ wx.heap.size) (v1 v2 : Value) :
    Pr (((w1.alloc (.cells #[.slice none 0 0, .slice none 0 0] 31)).setCell ⟨bh, o, none⟩ v1).setCell ⟨bh + 1, o, none⟩ v2) q w1.heap.size 0 [] [] F (fun x => x = w1.heap.size) ∧
    (∀ x, F x ∨ x = w1.heap.size → wx.heap.size ≤ x) ∧
    Keep (fun x => x = bh ∨ x = bh + 1) wx (((w1.alloc (.cells #[.slice none 0 0, .slice none 0 0] 31)).setCell ⟨bh, o, none⟩ v1).setCell ⟨bh + 1, o, none⟩ v2) := by
  have s1 := h.kp.size
  have kA : Keep (fun x => x = bh ∨ x = bh + 1) (w1.alloc (.cells #[.slice none 0 0, .slice none 0 0] 31)) (((w1.alloc (.cells #[.slice none 0 0, .slice none 0 0] 31)).setCell ⟨bh, o, none⟩ v1).setCell ⟨bh + 1, o, none⟩ v2) := ((Keep.refl _ _).setCell (.inl rfl) _).setCell (.inr rfl) _
  have k0 : Keep (fun _ => False) w1 (w1.alloc (.cells #[.slice none 0 0, .slice none 0 0] 31)) := (Keep.refl _ _).alloc _
  refine ⟨⟨(h.at'.keep k0 (fun _ _ h => h)).keep kA (fun x hx e => ?_), ⟨none, 0, none, 0, (ri_new w1).keep kA (fun e => ?_) (fun _ e => by cases e) (fun _ e => by cases e), fun x => ⟨fun e => .inl e, fun e => ?_⟩⟩, fun x hx e => ?_⟩, fun x hx => ?_, ((Keep.ofBelow h.kp).trans (k0.mono fun _ h => h.elim)).trans kA⟩
  · have := h.nw x hx; omega
  · omega
  · rcases e with e | e | e
    · exact e
    · cases e
    · cases e
  · have := h.at'.lt hx; omega
  · rcases hx with e | e
    · exact h.nw x e
    · omega

/-- Two pairs. -/
structure Qd (w : World) (bh q0 r0 t0 : Nat) (L0 : Le) (F0 G0 : Nat → Prop) (q1 r1 t1 : Nat) (L1 : Le) (F1 G1 : Nat → Prop) (wx : World) : Prop where
  p0 : Pr wx q0 r0 t0 L0 L0 F0 G0
  p1 : Pr wx q1 r1 t1 L1 L1 F1 G1
  ap : ∀ x, F0 x ∨ G0 x → ¬ (F1 x ∨ G1 x)
  n0 : ∀ x, F0 x ∨ G0 x → bh + 2 ≤ x
  n1 : ∀ x, F1 x ∨ G1 x → bh + 2 ≤ x
  ar : Ar wx bh (pq q0) (pq q1) (pq r0) (pq r1)
  bl : Below w.heap.size w wx
  wb : w.heap.size ≤ bh
section
variable {w wx w' : World} {bh q0 r0 t0 : Nat} {L0 : Le} {F0 G0 : Nat → Prop} {q1 r1 t1 : Nat} {L1 : Le} {F1 G1 : Nat → Prop}
theorem Qd.swapless (h : Qd w bh q0 r0 t0 L0 F0 G0 q1 r1 t1 L1 F1 G1 wx) (hp : Po wx w' q0 r0 t0 F0 G0) : ∃ t' L' F' G', t' ≤ t0 + 1 ∧ Qd w bh q0 r0 t' L' F' G' q1 r1 t1 L1 F1 G1 w' := by
  obtain ⟨t', L', F', G', ht, hp', hs, hk⟩ := hp
  have hlt := fun x (hx : F1 x ∨ G1 x) => h.p1.lt hx
  have hbs : bh + 1 < wx.heap.size := (Array.getElem?_eq_some_iff.1 h.ar.B).1
  refine ⟨t', L', F', G', ht, hp', h.p1.keep hk (fun x h1 h0 => h.ap x h0 h1), fun x hx h1 => ?_, fun x hx => ?_, h.n1, h.ar.keep hk (fun e => by have := h.n0 _ e; omega) (fun e => by have := h.n0 _ e; omega), h.bl.trans (hk.below h.bl.size (fun x hx => by have := h.n0 x hx; have := h.wb; omega)), h.wb⟩
  · rcases hs x hx with g | g
    · exact h.ap x g h1
    · have := hlt x h1; omega
  · rcases hs x hx with g | g
    · exact h.n0 x g
    · omega
theorem Qd.other (h : Qd w bh q0 r0 t0 L0 F0 G0 q1 r1 t1 L1 F1 G1 wx) (hp : Po wx w' q1 r1 t1 F1 G1) : ∃ t' L' F' G', t' ≤ t1 + 1 ∧ Qd w bh q0 r0 t0 L0 F0 G0 q1 r1 t' L' F' G' w' := by
  obtain ⟨t', L', F', G', ht, hp', hs, hk⟩ := hp
  have hlt := fun x (hx : F0 x ∨ G0 x) => h.p0.lt hx
  have hbs : bh + 1 < wx.heap.size := (Array.getElem?_eq_some_iff.1 h.ar.B).1
  refine ⟨t', L', F', G', ht, h.p0.keep hk (fun x h0 h1 => h.ap x h0 h1), hp', fun x h0 hx => ?_, h.n0, fun x hx => ?_, h.ar.keep hk (fun e => by have := h.n1 _ e; omega) (fun e => by have := h.n1 _ e; omega), h.bl.trans (hk.below h.bl.size (fun x hx => by have := h.n1 x hx; have := h.wb; omega)), h.wb⟩
  · rcases hs x hx with g | g
    · exact h.ap x h0 g
    · have := hlt x h0; omega
  · rcases hs x hx with g | g
    · exact h.n1 x g
    · omega
theorem Qd.below (h : Qd w bh q0 r0 t0 L0 F0 G0 q1 r1 t1 L1 F1 G1 wx) (hb : Below wx.heap.size wx w') : Qd w bh q0 r0 t0 L0 F0 G0 q1 r1 t1 L1 F1 G1 w' :=
  ⟨h.p0.below hb, h.p1.below hb, h.ap, h.n0, h.n1, h.ar.below hb, h.bl.trans (hb.mono h.bl.size), h.wb⟩
end

/-- Behind the first round of the first loop. -/
structure Q1 (w : World) (bh q0 r0 : Nat) (F0 G0 : Nat → Prop) (wx : World) : Prop where
  p0 : Pr wx q0 r0 0 [] [] F0 G0
  n0 : ∀ x, F0 x ∨ G0 x → bh + 2 ≤ x
  ar : Ar wx bh (pq q0) (.pointer none) (pq r0) (.pointer none)
  bl : Below w.heap.size w wx
/-- Ahead of it. -/
structure Q0 (w : World) (bh : Nat) (wx : World) : Prop where
  ar : Ar wx bh (.pointer none) (.pointer none) (.pointer none) (.pointer none)
  bl : Below w.heap.size w wx

set_option maxRecDepth 100000 in
set_option maxHeartbeats 8000000 in
theorem exact_law (a : Option Addr) (n c : Nat) (op : Nat → Opx) (w : World) (hO : LRd w a n c op) :
    Calls Try.prog 3 #[.slice a n c] w fun e w' => e = .returned (.bool true) ∧ Below w.heap.size w w' := by
  have hcap := hO.cap
  have hm : c ≤ 9223372036854775807 := by have := hO.most; unfold maxLen at this; omega
  have HO : Hid (LRd w a n c op) := hO
  clear hO
  go_enter Try.func3, Try.ntmps3
  go_upto_block 0 with fail
  have h0 : Q0 w w.heap.size ((w.alloc (.cells #[.pointer none, .pointer none] 24)).alloc (.cells #[.pointer none, .pointer none] 26)) := by
    have e : (w.alloc (.cells #[.pointer none, .pointer none] 24)).heap.size = w.heap.size + 1 := by simp
    refine ⟨⟨?_, ?_⟩, ((Below.refl _ _).alloc (Nat.le_refl _) _).alloc (by simp) _⟩
    · exact (Below.heap_alloc (w.alloc (.cells #[.pointer none, .pointer none] 24)) _ w.heap.size (by simp)).trans (alloc_at w _)
    · have := alloc_at (w.alloc (.cells #[.pointer none, .pointer none] 24)) (.cells #[.pointer none, .pointer none] 26)
      rw [e] at this; exact this
  generalize (w.alloc (.cells #[.pointer none, .pointer none] 24)).alloc (.cells #[.pointer none, .pointer none] 26) = w0 at *
  have hwb : w.heap.size ≤ w.heap.size := Nat.le_refl _
  obtain ⟨bh, hbh⟩ : ∃ bh, w.heap.size = bh := ⟨_, rfl⟩
  have HZ : Hid (w.heap.size = bh) := hbh
  rw [hbh] at h0 ⊢
  have H0 : Hid (Q0 w bh w0) := h0
  clear h0 hbh hwb
  go_cut [5] from 8 to 26 (fun _ wx => ∃ (q0 r0 q1 r1 : Nat) (F0 G0 F1 G1 : Nat → Prop), Hid (Qd w bh q0 r0 0 [] F0 G0 q1 r1 0 [] F1 G1 wx))
  case first =>
    go_wp2_with fail
    go_loopg [5] 2 (fun kx s5 wr => (s5 = .int .i64 0 ∧ kx = 2 ∧ Hid (Q0 w bh wr)) ∨ (s5 = .int .i64 1 ∧ kx = 1 ∧ ∃ (q0 r0 : Nat) (F0 G0 : Nat → Prop), Hid (Q1 w bh q0 r0 F0 G0 wr)) ∨ (s5 = .int .i64 2 ∧ kx = 0 ∧ ∃ (q0 r0 q1 r1 : Nat) (F0 G0 F1 G1 : Nat → Prop), Hid (Qd w bh q0 r0 0 [] F0 G0 q1 r1 0 [] F1 G1 wr)))
    case atStart => exact .inl ⟨rfl, rfl, H0⟩
    case round =>
      clear H0
      rcases hrel with ⟨rfl, hk, HQ⟩ | ⟨rfl, hk, q0, r0, F0, G0, HQ⟩ | ⟨rfl, hk, q0, r0, q1, r1, F0, G0, F1, G1, HQ⟩
      · have hbs : bh + 2 ≤ wr.heap.size := (Array.getElem?_eq_some_iff.1 HQ.out.ar.B).1
        have cN := new_any wr
        go_wp2_with (first
          | (go_at_call 8; refine cN.mono ?_; clear cN; rintro e w1 ⟨q, F, rfl, hN⟩; have arA := (HQ.out.ar.below hN.kp).keep (S := fun _ => False) ((Keep.refl _ _).alloc (.cells #[.slice none 0 0, .slice none 0 0] 31)) (fun h => h) (fun h => h); have g1 := arA.a0; have g2 := arA.fa 0; have arB := arA.setA0 (.pointer (some ⟨q, 0, none⟩)); have g3 := arB.b0; have g4 := arB.fb 0; have arC := arB.setB0 (.pointer (some ⟨w1.heap.size, 0, none⟩)); have g5 := arC.a0; have hpn := pair_new (o := 0) hN hbs (.pointer (some ⟨q, 0, none⟩)) (.pointer (some ⟨w1.heap.size, 0, none⟩)); have cW := wakes_any (((w1.alloc (.cells #[.slice none 0 0, .slice none 0 0] 31)).setCell ⟨bh, 0, none⟩ (.pointer (some ⟨q, 0, none⟩))).setCell ⟨bh + 1, 0, none⟩ (.pointer (some ⟨w1.heap.size, 0, none⟩))))
          | (go_at_call 9; refine cW.mono ?_; clear cW; rintro e w5 ⟨rfl, hb5⟩))
        go_roundg 1
        case measure => omega
        case rel =>
          refine .inr (.inl ⟨rfl, rfl, q, w1.heap.size, F, fun x => x = w1.heap.size, hpn.1.below hb5, fun x hx => ?_, arC.below hb5, ?_⟩)
          · have := hpn.2.1 x hx; omega
          · have b1 := HQ.out.bl.trans (hpn.2.2.below HQ.out.bl.size (fun x hx => by have := HZ.out; rcases hx with e | e <;> omega))
            exact b1.trans (hb5.mono b1.size)
      · have hbs : bh + 2 ≤ wr.heap.size := (Array.getElem?_eq_some_iff.1 HQ.out.ar.B).1
        have cN := new_any wr
        go_wp2_with (first
          | (go_at_call 8; refine cN.mono ?_; clear cN; rintro e w1 ⟨q, F, rfl, hN⟩; have arA := (HQ.out.ar.below hN.kp).keep (S := fun _ => False) ((Keep.refl _ _).alloc (.cells #[.slice none 0 0, .slice none 0 0] 31)) (fun h => h) (fun h => h); have g1 := arA.a1; have g2 := arA.fa 1; have arB := arA.setA1 (.pointer (some ⟨q, 0, none⟩)); have g3 := arB.b1; have g4 := arB.fb 1; have arC := arB.setB1 (.pointer (some ⟨w1.heap.size, 0, none⟩)); have g5 := arC.a1; have hpn := pair_new (o := 1) hN hbs (.pointer (some ⟨q, 0, none⟩)) (.pointer (some ⟨w1.heap.size, 0, none⟩)); have cW := wakes_any (((w1.alloc (.cells #[.slice none 0 0, .slice none 0 0] 31)).setCell ⟨bh, 1, none⟩ (.pointer (some ⟨q, 0, none⟩))).setCell ⟨bh + 1, 1, none⟩ (.pointer (some ⟨w1.heap.size, 0, none⟩))))
          | (go_at_call 9; refine cW.mono ?_; clear cW; rintro e w5 ⟨rfl, hb5⟩))
        go_roundg 0
        case measure => omega
        case rel =>
          have hp0 := HQ.out.p0.keep hpn.2.2 (fun x hx e => by have := HQ.out.n0 x hx; rcases e with e | e <;> omega)
          refine .inr (.inr ⟨rfl, rfl, q0, r0, q, w1.heap.size, F0, G0, F, fun x => x = w1.heap.size, hp0.below hb5, hpn.1.below hb5, fun x h0 h1 => ?_, HQ.out.n0, fun x hx => ?_, arC.below hb5, ?_, by have := HZ.out; omega⟩)
          · have g1 := HQ.out.p0.lt h0
            have g2 := hpn.2.1 x h1
            omega
          · have := hpn.2.1 x hx; omega
          · have b1 := HQ.out.bl.trans (hpn.2.2.below HQ.out.bl.size (fun x hx => by have := HZ.out; rcases hx with e | e <;> omega))
            exact b1.trans (hb5.mono b1.size)
      · go_wp2
        go_meet
        exact ⟨q0, r0, q1, r1, F0, G0, F1, G1, HQ⟩
  case rest =>
  clear H0
  obtain ⟨q0, r0, q1, r1, F0, G0, F1, G1, HQ⟩ := hcut
  go_upto_block 2 with fail
  go_cut [6, 7] from 27 to 65 (fun _ _ wx => ∃ (t0 t1 : Nat) (L0 L1 : Le) (F0 G0 F1 G1 : Nat → Prop), t0 ≤ 900 ∧ Hid (Qd w bh q0 r0 t0 L0 F0 G0 q1 r1 t1 L1 F1 G1 wx))
  case first =>
    go_wp2_with fail
    go_loopg [6, 7] 200 (fun kx s6 _ wr => ∃ (i t0 t1 : Nat) (L0 L1 : Le) (F0 G0 F1 G1 : Nat → Prop), s6 = .int .i64 i ∧ i + kx = 200 ∧ t0 ≤ 2 * i ∧ t1 ≤ 2 * i ∧ Hid (Qd w bh q0 r0 t0 L0 F0 G0 q1 r1 t1 L1 F1 G1 wr))
    case atStart => exact ⟨0, 0, 0, [], [], F0, G0, F1, G1, rfl, rfl, Nat.le_refl _, Nat.le_refl _, HQ⟩
    case round =>
      clear HQ
      obtain ⟨i, t0, t1, L0, L1, F0, G0, F1, G1, rfl, hik, ht0, ht1, HQ⟩ := hrel
      by_cases h1 : i < n
      · have h1z : (i : Int) < (n : Int) := by omega
        by_cases h2 : i < 200
        · have h2z : (i : Int) < 200 := by omega
          obtain ⟨b, off, rfl, hce⟩ := HO.out.flat (by omega)
          have HOp : Hid (OpAt w b (off + i * 4) (op i)) := hce i h1
          clear hce
          have q0c := (HOp.out.below HQ.out.bl).c0
          generalize op i = x at *
          have hand := and_one x.on
          obtain ⟨K, hK⟩ : ∃ K, bits .and .i64 x.on 1 = K := ⟨_, rfl⟩
          rw [hK] at hand
          go_upto_region 13 with fail
          clear hK
          rcases hand with rfl | rfl
          · refine wp_region_lx (fun w' => w'.cell? ⟨bh, 0, none⟩ = some (.pointer (some ⟨q0, 0, none⟩)) ∧ w'.cell? ⟨bh + 1, 0, none⟩ = some (.pointer (some ⟨r0, 0, none⟩)) ∧ OpAt w' b (off + i * 4) x) [] 23 (by kernel_rfl) (by kernel_rfl) ?_
            have hQd : Qd w bh q0 r0 t0 L0 F0 G0 q1 r1 t1 L1 F1 G1 wr.drew := HQ.out.below ((Below.refl _ _).drew)
            clear HQ q0c
            generalize wr.drew = W at hQd ⊢
            have HS : W.cell? ⟨bh, 0, none⟩ = some (.pointer (some ⟨q0, 0, none⟩)) ∧ W.cell? ⟨bh + 1, 0, none⟩ = some (.pointer (some ⟨r0, 0, none⟩)) ∧ OpAt W b (off + i * 4) x := ⟨hQd.ar.a0, hQd.ar.b0, HOp.out.below hQd.bl⟩
            refine lx_rd 0 ?vR00 (by kernel_rfl) (fun _ _ d _ _ h => by cases d <;> exact h) (by kernel_rfl) HS rfl rfl rfl (fun w' hS => ?hR00) ?_
            case hR00 => first | (go_simp; rfl) | go_simp
            simp only [List.setIfInBounds_toArray, List.set_cons_zero, List.set_cons_succ]
            refine lx_rd 1 (.pointer (some ⟨bh, 0, none⟩)) (by kernel_rfl) (fun _ _ d _ _ h => by cases d <;> exact h) (by kernel_rfl) HS rfl rfl rfl (fun w' hS => ?hR01) ?_
            case hR01 => first | (go_simp; rfl) | go_simp
            simp only [List.setIfInBounds_toArray, List.set_cons_zero, List.set_cons_succ]
            refine lx_rd 2 (.pointer (some ⟨q0, 0, none⟩)) (by kernel_rfl) (fun _ _ d _ _ h => by cases d <;> exact h) (by kernel_rfl) HS rfl rfl rfl (fun w' hS => ?hR02) ?_
            case hR02 => have z1 := hS.1; first | (go_simp; rfl) | go_simp
            simp only [List.setIfInBounds_toArray, List.set_cons_zero, List.set_cons_succ]
            refine lx_rd 3 ?vR03 (by kernel_rfl) (fun _ _ d _ _ h => by cases d <;> exact h) (by kernel_rfl) HS rfl rfl rfl (fun w' hS => ?hR03) ?_
            case hR03 => first | (go_simp; rfl) | go_simp
            simp only [List.setIfInBounds_toArray, List.set_cons_zero, List.set_cons_succ]
            refine lx_rd 4 (.pointer (some ⟨bh + 1, 0, none⟩)) (by kernel_rfl) (fun _ _ d _ _ h => by cases d <;> exact h) (by kernel_rfl) HS rfl rfl rfl (fun w' hS => ?hR04) ?_
            case hR04 => first | (go_simp; rfl) | go_simp
            simp only [List.setIfInBounds_toArray, List.set_cons_zero, List.set_cons_succ]
            refine lx_rd 5 (.pointer (some ⟨r0, 0, none⟩)) (by kernel_rfl) (fun _ _ d _ _ h => by cases d <;> exact h) (by kernel_rfl) HS rfl rfl rfl (fun w' hS => ?hR05) ?_
            case hR05 => have z1 := hS.2.1; first | (go_simp; rfl) | go_simp
            simp only [List.setIfInBounds_toArray, List.set_cons_zero, List.set_cons_succ]
            refine lx_rd 6 ?vR06 (by kernel_rfl) (fun _ _ d _ _ h => by cases d <;> exact h) (by kernel_rfl) HS rfl rfl rfl (fun w' hS => ?hR06) ?_
            case hR06 => first | (go_simp; rfl) | go_simp
            simp only [List.setIfInBounds_toArray, List.set_cons_zero, List.set_cons_succ]
            refine lx_rd 7 ?vR07 (by kernel_rfl) (fun _ _ d _ _ h => by cases d <;> exact h) (by kernel_rfl) HS rfl rfl rfl (fun w' hS => ?hR07) ?_
            case hR07 => first | (go_simp; rfl) | go_simp
            simp only [List.setIfInBounds_toArray, List.set_cons_zero, List.set_cons_succ]
            refine lx_rd 8 (.pointer (some ⟨b, off + i * 4, none⟩)) (by kernel_rfl) (fun _ _ d _ _ h => by cases d <;> exact h) (by kernel_rfl) HS rfl rfl rfl (fun w' hS => ?hR08) ?_
            case hR08 => first | (go_simp; rfl) | go_simp
            simp only [List.setIfInBounds_toArray, List.set_cons_zero, List.set_cons_succ]
            refine lx_rd 9 (.agg #[.int .i64 x.on, .int .i64 x.act, .string x.k, .int .u64 (x.f : Int)]) (by kernel_rfl) (fun _ _ d _ _ h => by cases d <;> exact h) (by kernel_rfl) HS rfl rfl rfl (fun w' hS => ?hR09) ?_
            case hR09 => have z0 := hS.2.2.c0; have z1 := hS.2.2.c1; have z2 := hS.2.2.c2; have z3 := hS.2.2.c3; first | (go_simp; rfl) | go_simp
            simp only [List.setIfInBounds_toArray, List.set_cons_zero, List.set_cons_succ]
            refine lx_one 10 (by kernel_rfl) (stepT_call 10 ?c100 rfl rfl rfl ?d100 ?_)
            case d100 => first | (go_simp; rfl) | go_simp
            refine (plays_any hQd.p0 x (by omega)).mono ?_
            rintro e w5 ⟨rfl, hPo10⟩
            obtain ⟨thQe, LhQe, FhQe, GhQe, hthQe, hQe⟩ := hQd.swapless hPo10
            have HShQe : w5.cell? ⟨bh, 0, none⟩ = some (.pointer (some ⟨q0, 0, none⟩)) ∧ w5.cell? ⟨bh + 1, 0, none⟩ = some (.pointer (some ⟨r0, 0, none⟩)) ∧ OpAt w5 b (off + i * 4) x := ⟨hQe.ar.a0, hQe.ar.b0, HOp.out.below hQe.bl⟩
            refine ⟨_, rfl, fun _ => HShQe, ?_⟩
            simp only [List.setIfInBounds_toArray, List.set_cons_zero, List.set_cons_succ]
            refine lx_one 11 (by kernel_rfl) (stepT_val (w' := w5) (.bool false) rfl rfl rfl ?v110 (fun _ => HShQe) ?_)
            case v110 => first | (go_simp; rfl) | go_simp
            simp only [List.setIfInBounds_toArray, List.set_cons_zero, List.set_cons_succ]
            refine lx_one 12 (by kernel_rfl) (stepT_val (w' := w5) (.bool false) rfl rfl rfl ?v120 (fun _ => HShQe) ?_)
            case v120 => first | (go_simp; rfl) | go_simp
            simp only [List.setIfInBounds_toArray, List.set_cons_zero, List.set_cons_succ]
            refine lx_rd 13 ?vT013 (by kernel_rfl) (fun _ _ d _ _ h => by cases d <;> exact h) (by kernel_rfl) HShQe rfl rfl rfl (fun w' hS => ?hT013) ?_
            case hT013 => first | (go_simp; rfl) | go_simp
            simp only [List.setIfInBounds_toArray, List.set_cons_zero, List.set_cons_succ]
            refine lx_rd 14 (.pointer (some ⟨bh, 0, none⟩)) (by kernel_rfl) (fun _ _ d _ _ h => by cases d <;> exact h) (by kernel_rfl) HShQe rfl rfl rfl (fun w' hS => ?hT014) ?_
            case hT014 => first | (go_simp; rfl) | go_simp
            simp only [List.setIfInBounds_toArray, List.set_cons_zero, List.set_cons_succ]
            refine lx_rd 15 (.pointer (some ⟨q0, 0, none⟩)) (by kernel_rfl) (fun _ _ d _ _ h => by cases d <;> exact h) (by kernel_rfl) HShQe rfl rfl rfl (fun w' hS => ?hT015) ?_
            case hT015 => have z1 := hS.1; first | (go_simp; rfl) | go_simp
            simp only [List.setIfInBounds_toArray, List.set_cons_zero, List.set_cons_succ]
            refine lx_rd 16 ?vT016 (by kernel_rfl) (fun _ _ d _ _ h => by cases d <;> exact h) (by kernel_rfl) HShQe rfl rfl rfl (fun w' hS => ?hT016) ?_
            case hT016 => first | (go_simp; rfl) | go_simp
            simp only [List.setIfInBounds_toArray, List.set_cons_zero, List.set_cons_succ]
            refine lx_rd 17 (.pointer (some ⟨bh + 1, 0, none⟩)) (by kernel_rfl) (fun _ _ d _ _ h => by cases d <;> exact h) (by kernel_rfl) HShQe rfl rfl rfl (fun w' hS => ?hT017) ?_
            case hT017 => first | (go_simp; rfl) | go_simp
            simp only [List.setIfInBounds_toArray, List.set_cons_zero, List.set_cons_succ]
            refine lx_rd 18 (.pointer (some ⟨r0, 0, none⟩)) (by kernel_rfl) (fun _ _ d _ _ h => by cases d <;> exact h) (by kernel_rfl) HShQe rfl rfl rfl (fun w' hS => ?hT018) ?_
            case hT018 => have z1 := hS.2.1; first | (go_simp; rfl) | go_simp
            simp only [List.setIfInBounds_toArray, List.set_cons_zero, List.set_cons_succ]
            refine lx_rd 19 (.agg #[.int .i64 0, .int .i64 0, .string ⟨#[]⟩, .int .u64 0]) (by kernel_rfl) (fun _ _ d _ _ h => by cases d <;> exact h) (by kernel_rfl) HShQe rfl rfl rfl (fun w' hS => ?hT019) ?_
            case hT019 => first | (go_simp; rfl) | go_simp
            simp only [List.setIfInBounds_toArray, List.set_cons_zero, List.set_cons_succ]
            refine lx_one 20 (by kernel_rfl) (stepT_call 10 ?c200 rfl rfl rfl ?d200 ?_)
            case d200 => first | (go_simp; rfl) | go_simp
            refine (plays_any hQe.p0 ⟨0, ⟨#[]⟩, 0, 0⟩ (by omega)).mono ?_
            rintro e w6 ⟨rfl, hPo20⟩
            obtain ⟨thQf, LhQf, FhQf, GhQf, hthQf, hQf⟩ := hQe.swapless hPo20
            have HShQf : w6.cell? ⟨bh, 0, none⟩ = some (.pointer (some ⟨q0, 0, none⟩)) ∧ w6.cell? ⟨bh + 1, 0, none⟩ = some (.pointer (some ⟨r0, 0, none⟩)) ∧ OpAt w6 b (off + i * 4) x := ⟨hQf.ar.a0, hQf.ar.b0, HOp.out.below hQf.bl⟩
            refine ⟨_, rfl, fun _ => HShQf, ?_⟩
            simp only [List.setIfInBounds_toArray, List.set_cons_zero, List.set_cons_succ]
            refine lx_one 21 (by kernel_rfl) (stepT_val (w' := w6) (.bool false) rfl rfl rfl ?v210 (fun _ => HShQf) ?_)
            case v210 => first | (go_simp; rfl) | go_simp
            simp only [List.setIfInBounds_toArray, List.set_cons_zero, List.set_cons_succ]
            refine lx_one 22 (by kernel_rfl) (stepT_val (w' := w6) (.bool false) rfl rfl rfl ?v220 (fun _ => HShQf) ?_)
            case v220 => first | (go_simp; rfl) | go_simp
            simp only [List.setIfInBounds_toArray, List.set_cons_zero, List.set_cons_succ]
            refine lx_nil (by kernel_rfl) ?_
            have HQf : Hid _ := hQf
            clear hQd hQe hQf HS HShQe HShQf hPo10 hPo20
            go_wp2
            go_roundg (gk - 1)
            case measure => omega
            case rel => exact ⟨i + 1, thQf, t1, LhQf, L1, FhQf, GhQf, F1, G1, by go_num, by omega, by omega, by omega, HQf⟩
          · refine wp_region_lx (fun w' => w'.cell? ⟨bh, 1, none⟩ = some (.pointer (some ⟨q1, 0, none⟩)) ∧ w'.cell? ⟨bh + 1, 1, none⟩ = some (.pointer (some ⟨r1, 0, none⟩)) ∧ OpAt w' b (off + i * 4) x) [] 23 (by kernel_rfl) (by kernel_rfl) ?_
            have hQd : Qd w bh q0 r0 t0 L0 F0 G0 q1 r1 t1 L1 F1 G1 wr.drew := HQ.out.below ((Below.refl _ _).drew)
            clear HQ q0c
            generalize wr.drew = W at hQd ⊢
            have HS : W.cell? ⟨bh, 1, none⟩ = some (.pointer (some ⟨q1, 0, none⟩)) ∧ W.cell? ⟨bh + 1, 1, none⟩ = some (.pointer (some ⟨r1, 0, none⟩)) ∧ OpAt W b (off + i * 4) x := ⟨hQd.ar.a1, hQd.ar.b1, HOp.out.below hQd.bl⟩
            refine lx_rd 0 ?vR10 (by kernel_rfl) (fun _ _ d _ _ h => by cases d <;> exact h) (by kernel_rfl) HS rfl rfl rfl (fun w' hS => ?hR10) ?_
            case hR10 => first | (go_simp; rfl) | go_simp
            simp only [List.setIfInBounds_toArray, List.set_cons_zero, List.set_cons_succ]
            refine lx_rd 1 (.pointer (some ⟨bh, 1, none⟩)) (by kernel_rfl) (fun _ _ d _ _ h => by cases d <;> exact h) (by kernel_rfl) HS rfl rfl rfl (fun w' hS => ?hR11) ?_
            case hR11 => first | (go_simp; rfl) | go_simp
            simp only [List.setIfInBounds_toArray, List.set_cons_zero, List.set_cons_succ]
            refine lx_rd 2 (.pointer (some ⟨q1, 0, none⟩)) (by kernel_rfl) (fun _ _ d _ _ h => by cases d <;> exact h) (by kernel_rfl) HS rfl rfl rfl (fun w' hS => ?hR12) ?_
            case hR12 => have z1 := hS.1; first | (go_simp; rfl) | go_simp
            simp only [List.setIfInBounds_toArray, List.set_cons_zero, List.set_cons_succ]
            refine lx_rd 3 ?vR13 (by kernel_rfl) (fun _ _ d _ _ h => by cases d <;> exact h) (by kernel_rfl) HS rfl rfl rfl (fun w' hS => ?hR13) ?_
            case hR13 => first | (go_simp; rfl) | go_simp
            simp only [List.setIfInBounds_toArray, List.set_cons_zero, List.set_cons_succ]
            refine lx_rd 4 (.pointer (some ⟨bh + 1, 1, none⟩)) (by kernel_rfl) (fun _ _ d _ _ h => by cases d <;> exact h) (by kernel_rfl) HS rfl rfl rfl (fun w' hS => ?hR14) ?_
            case hR14 => first | (go_simp; rfl) | go_simp
            simp only [List.setIfInBounds_toArray, List.set_cons_zero, List.set_cons_succ]
            refine lx_rd 5 (.pointer (some ⟨r1, 0, none⟩)) (by kernel_rfl) (fun _ _ d _ _ h => by cases d <;> exact h) (by kernel_rfl) HS rfl rfl rfl (fun w' hS => ?hR15) ?_
            case hR15 => have z1 := hS.2.1; first | (go_simp; rfl) | go_simp
            simp only [List.setIfInBounds_toArray, List.set_cons_zero, List.set_cons_succ]
            refine lx_rd 6 ?vR16 (by kernel_rfl) (fun _ _ d _ _ h => by cases d <;> exact h) (by kernel_rfl) HS rfl rfl rfl (fun w' hS => ?hR16) ?_
            case hR16 => first | (go_simp; rfl) | go_simp
            simp only [List.setIfInBounds_toArray, List.set_cons_zero, List.set_cons_succ]
            refine lx_rd 7 ?vR17 (by kernel_rfl) (fun _ _ d _ _ h => by cases d <;> exact h) (by kernel_rfl) HS rfl rfl rfl (fun w' hS => ?hR17) ?_
            case hR17 => first | (go_simp; rfl) | go_simp
            simp only [List.setIfInBounds_toArray, List.set_cons_zero, List.set_cons_succ]
            refine lx_rd 8 (.pointer (some ⟨b, off + i * 4, none⟩)) (by kernel_rfl) (fun _ _ d _ _ h => by cases d <;> exact h) (by kernel_rfl) HS rfl rfl rfl (fun w' hS => ?hR18) ?_
            case hR18 => first | (go_simp; rfl) | go_simp
            simp only [List.setIfInBounds_toArray, List.set_cons_zero, List.set_cons_succ]
            refine lx_rd 9 (.agg #[.int .i64 x.on, .int .i64 x.act, .string x.k, .int .u64 (x.f : Int)]) (by kernel_rfl) (fun _ _ d _ _ h => by cases d <;> exact h) (by kernel_rfl) HS rfl rfl rfl (fun w' hS => ?hR19) ?_
            case hR19 => have z0 := hS.2.2.c0; have z1 := hS.2.2.c1; have z2 := hS.2.2.c2; have z3 := hS.2.2.c3; first | (go_simp; rfl) | go_simp
            simp only [List.setIfInBounds_toArray, List.set_cons_zero, List.set_cons_succ]
            refine lx_one 10 (by kernel_rfl) (stepT_call 10 ?c101 rfl rfl rfl ?d101 ?_)
            case d101 => first | (go_simp; rfl) | go_simp
            refine (plays_any hQd.p1 x (by omega)).mono ?_
            rintro e w5 ⟨rfl, hPo10⟩
            obtain ⟨thQe, LhQe, FhQe, GhQe, hthQe, hQe⟩ := hQd.other hPo10
            have HShQe : w5.cell? ⟨bh, 1, none⟩ = some (.pointer (some ⟨q1, 0, none⟩)) ∧ w5.cell? ⟨bh + 1, 1, none⟩ = some (.pointer (some ⟨r1, 0, none⟩)) ∧ OpAt w5 b (off + i * 4) x := ⟨hQe.ar.a1, hQe.ar.b1, HOp.out.below hQe.bl⟩
            refine ⟨_, rfl, fun _ => HShQe, ?_⟩
            simp only [List.setIfInBounds_toArray, List.set_cons_zero, List.set_cons_succ]
            refine lx_one 11 (by kernel_rfl) (stepT_val (w' := w5) (.bool false) rfl rfl rfl ?v111 (fun _ => HShQe) ?_)
            case v111 => first | (go_simp; rfl) | go_simp
            simp only [List.setIfInBounds_toArray, List.set_cons_zero, List.set_cons_succ]
            refine lx_one 12 (by kernel_rfl) (stepT_val (w' := w5) (.bool false) rfl rfl rfl ?v121 (fun _ => HShQe) ?_)
            case v121 => first | (go_simp; rfl) | go_simp
            simp only [List.setIfInBounds_toArray, List.set_cons_zero, List.set_cons_succ]
            refine lx_rd 13 ?vT113 (by kernel_rfl) (fun _ _ d _ _ h => by cases d <;> exact h) (by kernel_rfl) HShQe rfl rfl rfl (fun w' hS => ?hT113) ?_
            case hT113 => first | (go_simp; rfl) | go_simp
            simp only [List.setIfInBounds_toArray, List.set_cons_zero, List.set_cons_succ]
            refine lx_rd 14 (.pointer (some ⟨bh, 1, none⟩)) (by kernel_rfl) (fun _ _ d _ _ h => by cases d <;> exact h) (by kernel_rfl) HShQe rfl rfl rfl (fun w' hS => ?hT114) ?_
            case hT114 => first | (go_simp; rfl) | go_simp
            simp only [List.setIfInBounds_toArray, List.set_cons_zero, List.set_cons_succ]
            refine lx_rd 15 (.pointer (some ⟨q1, 0, none⟩)) (by kernel_rfl) (fun _ _ d _ _ h => by cases d <;> exact h) (by kernel_rfl) HShQe rfl rfl rfl (fun w' hS => ?hT115) ?_
            case hT115 => have z1 := hS.1; first | (go_simp; rfl) | go_simp
            simp only [List.setIfInBounds_toArray, List.set_cons_zero, List.set_cons_succ]
            refine lx_rd 16 ?vT116 (by kernel_rfl) (fun _ _ d _ _ h => by cases d <;> exact h) (by kernel_rfl) HShQe rfl rfl rfl (fun w' hS => ?hT116) ?_
            case hT116 => first | (go_simp; rfl) | go_simp
            simp only [List.setIfInBounds_toArray, List.set_cons_zero, List.set_cons_succ]
            refine lx_rd 17 (.pointer (some ⟨bh + 1, 1, none⟩)) (by kernel_rfl) (fun _ _ d _ _ h => by cases d <;> exact h) (by kernel_rfl) HShQe rfl rfl rfl (fun w' hS => ?hT117) ?_
            case hT117 => first | (go_simp; rfl) | go_simp
            simp only [List.setIfInBounds_toArray, List.set_cons_zero, List.set_cons_succ]
            refine lx_rd 18 (.pointer (some ⟨r1, 0, none⟩)) (by kernel_rfl) (fun _ _ d _ _ h => by cases d <;> exact h) (by kernel_rfl) HShQe rfl rfl rfl (fun w' hS => ?hT118) ?_
            case hT118 => have z1 := hS.2.1; first | (go_simp; rfl) | go_simp
            simp only [List.setIfInBounds_toArray, List.set_cons_zero, List.set_cons_succ]
            refine lx_rd 19 (.agg #[.int .i64 0, .int .i64 0, .string ⟨#[]⟩, .int .u64 0]) (by kernel_rfl) (fun _ _ d _ _ h => by cases d <;> exact h) (by kernel_rfl) HShQe rfl rfl rfl (fun w' hS => ?hT119) ?_
            case hT119 => first | (go_simp; rfl) | go_simp
            simp only [List.setIfInBounds_toArray, List.set_cons_zero, List.set_cons_succ]
            refine lx_one 20 (by kernel_rfl) (stepT_call 10 ?c201 rfl rfl rfl ?d201 ?_)
            case d201 => first | (go_simp; rfl) | go_simp
            refine (plays_any hQe.p1 ⟨0, ⟨#[]⟩, 0, 0⟩ (by omega)).mono ?_
            rintro e w6 ⟨rfl, hPo20⟩
            obtain ⟨thQf, LhQf, FhQf, GhQf, hthQf, hQf⟩ := hQe.other hPo20
            have HShQf : w6.cell? ⟨bh, 1, none⟩ = some (.pointer (some ⟨q1, 0, none⟩)) ∧ w6.cell? ⟨bh + 1, 1, none⟩ = some (.pointer (some ⟨r1, 0, none⟩)) ∧ OpAt w6 b (off + i * 4) x := ⟨hQf.ar.a1, hQf.ar.b1, HOp.out.below hQf.bl⟩
            refine ⟨_, rfl, fun _ => HShQf, ?_⟩
            simp only [List.setIfInBounds_toArray, List.set_cons_zero, List.set_cons_succ]
            refine lx_one 21 (by kernel_rfl) (stepT_val (w' := w6) (.bool false) rfl rfl rfl ?v211 (fun _ => HShQf) ?_)
            case v211 => first | (go_simp; rfl) | go_simp
            simp only [List.setIfInBounds_toArray, List.set_cons_zero, List.set_cons_succ]
            refine lx_one 22 (by kernel_rfl) (stepT_val (w' := w6) (.bool false) rfl rfl rfl ?v221 (fun _ => HShQf) ?_)
            case v221 => first | (go_simp; rfl) | go_simp
            simp only [List.setIfInBounds_toArray, List.set_cons_zero, List.set_cons_succ]
            refine lx_nil (by kernel_rfl) ?_
            have HQf : Hid _ := hQf
            clear hQd hQe hQf HS HShQe HShQf hPo10 hPo20
            go_wp2
            go_roundg (gk - 1)
            case measure => omega
            case rel => exact ⟨i + 1, t0, thQf, L0, LhQf, F0, G0, FhQf, GhQf, by go_num, by omega, by omega, by omega, HQf⟩
        · have h2z : ¬ ((i : Int) < 200) := by omega
          go_wp2
          go_meet
          exact ⟨t0, t1, L0, L1, F0, G0, F1, G1, by omega, HQ⟩
      · have h1z : ¬ ((i : Int) < (n : Int)) := by omega
        go_wp2
        go_meet
        exact ⟨t0, t1, L0, L1, F0, G0, F1, G1, by omega, HQ⟩
  case rest =>
  clear HQ
  obtain ⟨t0, t1, L0, L1, F0, G0, F1, G1, ht, HQ⟩ := hcut
  go_upto_region 15 with fail
  refine wp_region_lx (fun w' => w'.cell? ⟨bh, 0, none⟩ = some (.pointer (some ⟨q0, 0, none⟩)) ∧ w'.cell? ⟨bh + 1, 0, none⟩ = some (.pointer (some ⟨r0, 0, none⟩))) [] 16 (by kernel_rfl) (by kernel_rfl) ?_
  have hQd : Qd w bh q0 r0 t0 L0 F0 G0 q1 r1 t1 L1 F1 G1 wc.drew := HQ.out.below ((Below.refl _ _).drew)
  clear HQ
  generalize wc.drew = W at hQd ⊢
  have HS : W.cell? ⟨bh, 0, none⟩ = some (.pointer (some ⟨q0, 0, none⟩)) ∧ W.cell? ⟨bh + 1, 0, none⟩ = some (.pointer (some ⟨r0, 0, none⟩)) := ⟨hQd.ar.a0, hQd.ar.b0⟩
  refine lx_rd 0 (.pointer (some ⟨bh, 0, none⟩)) (by kernel_rfl) (fun _ _ d _ _ h => by cases d <;> exact h) (by kernel_rfl) HS rfl rfl rfl (fun w' hS => ?hE0) ?_
  case hE0 => first | (go_simp; rfl) | go_simp
  simp only [List.setIfInBounds_toArray, List.set_cons_zero, List.set_cons_succ]
  refine lx_rd 1 (.pointer (some ⟨q0, 0, none⟩)) (by kernel_rfl) (fun _ _ d _ _ h => by cases d <;> exact h) (by kernel_rfl) HS rfl rfl rfl (fun w' hS => ?hE1) ?_
  case hE1 => have z1 := hS.1; first | (go_simp; rfl) | go_simp
  simp only [List.setIfInBounds_toArray, List.set_cons_zero, List.set_cons_succ]
  refine lx_rd 4 (.pointer (some ⟨bh + 1, 0, none⟩)) (by kernel_rfl) (fun _ _ d _ _ h => by cases d <;> exact h) (by kernel_rfl) HS rfl rfl rfl (fun w' hS => ?hE4) ?_
  case hE4 => first | (go_simp; rfl) | go_simp
  simp only [List.setIfInBounds_toArray, List.set_cons_zero, List.set_cons_succ]
  refine lx_rd 5 (.pointer (some ⟨r0, 0, none⟩)) (by kernel_rfl) (fun _ _ d _ _ h => by cases d <;> exact h) (by kernel_rfl) HS rfl rfl rfl (fun w' hS => ?hE5) ?_
  case hE5 => have z1 := hS.2; first | (go_simp; rfl) | go_simp
  simp only [List.setIfInBounds_toArray, List.set_cons_zero, List.set_cons_succ]
  refine lx_one 2 (by kernel_rfl) (stepT_call 13 ?ce2 rfl rfl rfl ?de2 ?_)
  case de2 => first | (go_simp; rfl) | go_simp
  refine (infP_any W).mono ?_
  rintro e wz ⟨rfl, hw⟩
  rw [hw]
  clear hw wz
  refine ⟨_, rfl, fun _ => HS, ?_⟩
  simp only [List.setIfInBounds_toArray, List.set_cons_zero, List.set_cons_succ]
  refine lx_one 3 (by kernel_rfl) (stepT_call 12 ?ce3 rfl rfl rfl ?de3 ?_)
  case de3 => first | (go_simp; rfl) | go_simp
  refine (due_any hQd.p0.ha Fl.inf (by omega)).mono ?_
  rintro e w5 ⟨v5, rfl, hP⟩
  obtain ⟨a5, c5, rfl, hS5⟩ := SRd.ofOwn hP.row
  have hfar : ∀ ad, a5 = some ad → W.heap.size ≤ ad.block := fun ad ha => by
    rcases hP.row.2 with ⟨e, _⟩ | ⟨g5, cap, cur, e, hg5, _⟩
    · rw [ha] at e; cases e
    · rw [ha] at e
      injection e with e _ _
      have e2 : ad = ⟨g5, 0, none⟩ := Option.some.inj e
      rw [e2]; exact hg5
  obtain ⟨F5, hP5, hs5, hk5⟩ := hQd.p0.left hP.dl.dn
  have ar5 := hQd.ar.keep hk5 (fun e => by have := hQd.n0 _ (.inl e); omega) (fun e => by have := hQd.n0 _ (.inl e); omega)
  have HS5 : w5.cell? ⟨bh, 0, none⟩ = some (.pointer (some ⟨q0, 0, none⟩)) ∧ w5.cell? ⟨bh + 1, 0, none⟩ = some (.pointer (some ⟨r0, 0, none⟩)) := ⟨ar5.a0, ar5.b0⟩
  refine ⟨_, rfl, fun _ => HS5, ?_⟩
  simp only [List.setIfInBounds_toArray, List.set_cons_zero, List.set_cons_succ]
  refine lx_one 6 (by kernel_rfl) (stepT_call 13 ?ce6 rfl rfl rfl ?de6 ?_)
  case de6 => first | (go_simp; rfl) | go_simp
  refine (infP_any w5).mono ?_
  rintro e wz ⟨rfl, hw⟩
  rw [hw]
  clear hw wz
  refine ⟨_, rfl, fun _ => HS5, ?_⟩
  simp only [List.setIfInBounds_toArray, List.set_cons_zero, List.set_cons_succ]
  refine lx_one 7 (by kernel_rfl) (stepT_call 14 ?ce7 rfl rfl rfl ?de7 ?_)
  case de7 => first | (go_simp; rfl) | go_simp
  refine (rdue_any hP5.hr Fl.inf (by have := hQd.p0.ha.ltn; omega) hQd.p0.ha.nk hQd.p0.ha.num).mono ?_
  rintro e w6 ⟨v6, rfl, hrow6, hD6⟩
  obtain ⟨a6, c6, rfl, hS6⟩ := SRd.ofOwn hrow6
  obtain ⟨G6, hP6, hs6, hk6⟩ := hP5.right hD6
  have ar6 := ar5.keep hk6 (fun e => by have := hQd.n0 _ (.inr e); omega) (fun e => by have := hQd.n0 _ (.inr e); omega)
  have HS6 : w6.cell? ⟨bh, 0, none⟩ = some (.pointer (some ⟨q0, 0, none⟩)) ∧ w6.cell? ⟨bh + 1, 0, none⟩ = some (.pointer (some ⟨r0, 0, none⟩)) := ⟨ar6.a0, ar6.b0⟩
  refine ⟨_, rfl, fun _ => HS6, ?_⟩
  simp only [List.setIfInBounds_toArray, List.set_cons_zero, List.set_cons_succ]
  refine lx_one 8 (by kernel_rfl) (stepT_call 11 ?ce8 rfl rfl rfl ?de8 ?_)
  case de8 => first | (go_simp; rfl) | go_simp
  refine (kSame_true a5 _ c5 a6 c6 (due L0 Fl.inf).1 w6 (hS5.keep hk6 (fun ad ha hG => by have h1 := hfar ad ha; have h2 := hQd.p0.hr.lt hG; omega)) hS6).mono ?_
  rintro e w7 ⟨rfl, hb7⟩
  have ar7 := ar6.below hb7
  have HS7 : w7.cell? ⟨bh, 0, none⟩ = some (.pointer (some ⟨q0, 0, none⟩)) ∧ w7.cell? ⟨bh + 1, 0, none⟩ = some (.pointer (some ⟨r0, 0, none⟩)) := ⟨ar7.a0, ar7.b0⟩
  refine ⟨_, rfl, fun _ => HS7, ?_⟩
  simp only [List.setIfInBounds_toArray, List.set_cons_zero, List.set_cons_succ]
  refine lx_one 9 (by kernel_rfl) (stepT_val (w' := w7) (.bool true) rfl rfl rfl ?ve9 (fun _ => HS7) ?_)
  case ve9 => first | (go_simp; rfl) | go_simp
  simp only [List.setIfInBounds_toArray, List.set_cons_zero, List.set_cons_succ]
  refine lx_rd 10 (.pointer (some ⟨bh, 0, none⟩)) (by kernel_rfl) (fun _ _ d _ _ h => by cases d <;> exact h) (by kernel_rfl) HS7 rfl rfl rfl (fun w' hS => ?hH10) ?_
  case hH10 => first | (go_simp; rfl) | go_simp
  simp only [List.setIfInBounds_toArray, List.set_cons_zero, List.set_cons_succ]
  refine lx_rd 11 (.pointer (some ⟨q0, 0, none⟩)) (by kernel_rfl) (fun _ _ d _ _ h => by cases d <;> exact h) (by kernel_rfl) HS7 rfl rfl rfl (fun w' hS => ?hH11) ?_
  case hH11 => have z1 := hS.1; first | (go_simp; rfl) | go_simp
  simp only [List.setIfInBounds_toArray, List.set_cons_zero, List.set_cons_succ]
  have hall : (due L0 Fl.inf).2 = [] := due_all _ L0 (Nat.le_refl _) hQd.p0.ha.nk hQd.p0.ha.num
  have cL := lenH_any (hP6.ha.below hb7)
  rw [hall] at cL
  refine lx_one 12 (by kernel_rfl) (stepT_call 15 ?ce12 rfl rfl rfl ?de12 ?_)
  case de12 => first | (go_simp; rfl) | go_simp
  refine cL.mono ?_
  rintro e wz ⟨rfl, hw⟩
  rw [hw]
  clear hw wz
  refine ⟨_, rfl, fun _ => HS7, ?_⟩
  simp only [List.setIfInBounds_toArray, List.set_cons_zero, List.set_cons_succ]
  refine lx_one 13 (by kernel_rfl) (stepT_val (w' := w7) (.bool true) rfl rfl rfl ?ve13 (fun _ => HS7) ?_)
  case ve13 => first | (go_simp; rfl) | go_simp
  simp only [List.setIfInBounds_toArray, List.set_cons_zero, List.set_cons_succ]
  refine lx_one 14 (by kernel_rfl) (stepT_val (w' := w7) (.bool true) rfl rfl rfl ?ve14 (fun _ => HS7) ?_)
  case ve14 => first | (go_simp; rfl) | go_simp
  simp only [List.setIfInBounds_toArray, List.set_cons_zero, List.set_cons_succ]
  refine lx_one 15 (by kernel_rfl) (stepT_val (w' := w7) (.bool true) rfl rfl rfl ?ve15 (fun _ => HS7) ?_)
  case ve15 => first | (go_simp; rfl) | go_simp
  simp only [List.setIfInBounds_toArray, List.set_cons_zero, List.set_cons_succ]
  refine lx_nil (by kernel_rfl) ?_
  have hwb := hQd.wb
  have B5 : Below w.heap.size w w5 := hQd.bl.trans (hk5.below hQd.bl.size (fun x hx => by have := hQd.n0 x (.inl hx); omega))
  have B6 : Below w.heap.size w w6 := B5.trans (hk6.below B5.size (fun x hx => by have := hQd.n0 x (.inr hx); omega))
  have B7 : Hid (Below w.heap.size w w7) := B6.trans (hb7.mono B6.size)
  clear hQd HS HS5 HS6 HS7 hP hS5 hfar hP5 hs5 hk5 ar5 hrow6 hD6 hS6 hP6 hs6 hk6 ar6 hb7 ar7 hall cL B5 B6
  go_wp2
  go_ret
  exact ⟨rfl, B7.out⟩

end Go.Proofs.Ytfakcjelibdnbaa
