/- Both doors, side by side. -/
import Derived.Test.YtiidjdedeenijaaDrRc
namespace Go.Proofs.Ytiidjdedeenijaa
open Go.RowKit

set_option maxHeartbeats 1000000 in
theorem new_blk (most : Int) (sec : Nat) (h1 : 1 ≤ most) (h2 : Fl.nan sec = false) (h3 : flt sec 0 = false) (w : World) :
    Calls Try.prog 7 #[.int .i64 most, .float .f64 sec] w fun e w' => ∃ d bm, e = .returned (.tuple #[.pointer (some ⟨d, 0, none⟩), .int .i64 0]) ∧ DoorAt w' d bm 0 most sec (fun _ => none) ∧ (∃ o, w'.heap[d]? = some (.cells o 50 (0, 0))) ∧ w.heap.size ≤ bm ∧ Below w.heap.size w w' := by
  have hlt := f64_lt sec 0
  rw [h3] at hlt
  have hmk := fun w : World => run_makeMap (P := Try.prog) 48 w
  go_enter Try.func7, Try.ntmps7
  go_wp2_with (first
    | (go_at_call 18; refine (isNaN_any sec _).mono ?_; rw [h2]; rintro e w1 ⟨rfl, rfl⟩))
  go_ret2
  refine ⟨w1.heap.size + 1, w1.heap.size, rfl, ⟨?_, ?_, ?_, ?_⟩, ⟨#[.int .i64 most, .float .f64 sec, .map (some w1.heap.size)], ?_⟩, Nat.le_refl _, ?_⟩
  · exact World.cell?_alloc_at _ _ _ 0 (by simp)
  · exact World.cell?_alloc_at _ _ _ 1 (by simp)
  · exact World.cell?_alloc_at _ _ _ 2 (by simp)
  · exact (MapAt.made w1).keep (S := fun _ => False) ((Keep.refl _ _).alloc _) (fun h => h)
  · have := heap_alloc_new (w1.alloc (.map #[] 0)) (.cells #[.int .i64 most, .float .f64 sec, .map (some w1.heap.size)] 50 (0, 0))
    simpa using this
  · exact (((Keep.refl (fun _ => False) _).alloc _).alloc _).below (Nat.le_refl _) (fun _ h => h.elim)

/-- Both doors know the same. -/
def Rel (most : Int) (m : ByteArray → Option Tr) (F : ByteArray → Tr) : Prop :=
  ∀ x, (tr m x).1 = (F x).1 ∧ (∀ y, flt y (tr m x).2 = flt y (F x).2) ∧ 0 ≤ (tr m x).1 ∧ (tr m x).1 < most

structure Both (w0 : World) (B d bm rd : Nat) (most : Int) (sec : Nat) (wr : World) (n L : Nat) (m : ByteArray → Option Tr) (F : ByteArray → Tr) : Prop where
  door : DoorAt wr d bm n most sec m
  blk : ∃ o, wr.heap[d]? = some (.cells o 50 (0, 0))
  ref : ∃ v2 v3 v4 us cs ts, RD wr B rd v2 v3 v4 most sec us cs ts ∧ us.length ≤ L ∧ ∀ x, rt us cs ts x = F x
  bel : Below w0.heap.size w0 wr
  hb : w0.heap.size ≤ bm
  hB : w0.heap.size ≤ B
  hW : B ≤ wr.heap.size

section
variable {w0 : World} {B d bm rd : Nat} {most : Int} {sec : Nat} {wr w' : World} {n L : Nat} {m m' : ByteArray → Option Tr} {F : ByteArray → Tr}

theorem RD.not_map {w : World} {B rd : Nat} {v2 v3 v4 : Value} {us : List ByteArray} {cs : List Int} {ts : List Nat} (h : RD w B rd v2 v3 v4 most sec us cs ts) (hM : MapAt w bm n m) : ¬ RF rd v2 v3 v4 bm := by
  obtain ⟨D, ⟨es, clock, hb, _⟩, _⟩ := hM
  exact h.apart hb (fun c t fz e => by cases e)
theorem RD.not_door {w : World} {B rd : Nat} {v2 v3 v4 : Value} {us : List ByteArray} {cs : List Int} {ts : List Nat} (h : RD w B rd v2 v3 v4 most sec us cs ts) {o : Array Value} (hd : w.heap[d]? = some (.cells o 50 (0, 0))) : ¬ RF rd v2 v3 v4 d :=
  h.apart hd (fun c t fz e => by injection e with _ h2 _; subst h2; decide)

/-- A step of the program's that only makes. -/
theorem Both.below (h : Both w0 B d bm rd most sec wr n L m F) (hb : Below wr.heap.size wr w') : Both w0 B d bm rd most sec w' n L m F := by
  obtain ⟨v2, v3, v4, us, cs, ts, hR, hl, hF⟩ := h.ref
  obtain ⟨o, ho⟩ := h.blk
  exact ⟨h.door.below hb, ⟨o, (hb.block d h.door.lt).trans ho⟩, ⟨v2, v3, v4, us, cs, ts, hR.below hb, hl, hF⟩, h.bel.trans (hb.mono h.bel.size), h.hb, h.hB, Nat.le_trans h.hW hb.size⟩
/-- A step of the program's that writes its map. -/
theorem Both.turn (h : Both w0 B d bm rd most sec wr n L m F) (hk : Keep (fun k => k = bm) wr w') (hD : DoorAt w' d bm (n + 1) most sec m') : Both w0 B d bm rd most sec w' (n + 1) L m' F := by
  obtain ⟨v2, v3, v4, us, cs, ts, hR, hl, hF⟩ := h.ref
  obtain ⟨o, ho⟩ := h.blk
  refine ⟨hD, ⟨o, (hk.block d h.door.lt h.door.ne).trans ho⟩, ⟨v2, v3, v4, us, cs, ts, hR.keep hk (fun k hq e => ?_), hl, hF⟩, h.bel.trans (hk.below h.bel.size (fun k e => by subst e; exact h.hb)), h.hb, h.hB, Nat.le_trans h.hW hk.size⟩
  rw [e] at hq
  exact hR.not_map h.door.map hq
/-- A step of the document's. -/
theorem Both.step (h : Both w0 B d bm rd most sec wr n L m F) {v2 v3 v4 : Value} {us : List ByteArray} {cs : List Int} {ts : List Nat} (hR : RD wr B rd v2 v3 v4 most sec us cs ts) {L' : Nat} {F' : ByteArray → Tr} (hS : RStep wr w' B rd v2 v3 v4 most sec L' F') : Both w0 B d bm rd most sec w' n L' m F' := by
  obtain ⟨o, ho⟩ := h.blk
  obtain ⟨y2, y3, y4, us', cs', ts', hD, hF, hl, hk, hf⟩ := hS
  have hd := hR.not_door ho
  have hm := hR.not_map h.door.map
  exact ⟨h.door.keep hk hd hm, ⟨o, (hk.block d h.door.lt hd).trans ho⟩, ⟨y2, y3, y4, us', cs', ts', hD, hl, hF⟩, h.bel.trans (hk.below h.bel.size (fun k hk => Nat.le_trans h.hB (hR.high hk))), h.hb, h.hB, Nat.le_trans h.hW hk.size⟩

theorem rask_b (s : ByteArray) (now : Nat) (hL : L ≤ 1000) (h : Both w0 B d bm rd most sec wr n L m F) :
    Calls Try.prog 16 #[.pointer (some ⟨rd, 0, none⟩), .string s, .float .f64 now] wr fun e w' => e = .returned (.int .i64 (askT (F s) now)) ∧ Both w0 B d bm rd most sec w' n (L + 1) m F := by
  obtain ⟨v2, v3, v4, us, cs, ts, hR, hl, hF⟩ := h.ref
  refine (refAsk_any B rd v2 v3 v4 most sec us cs ts s now wr (by omega) h.hW hR).mono ?_
  rintro e w' ⟨rfl, hS⟩
  rw [hF]
  refine ⟨rfl, h.step hR ?_⟩
  obtain ⟨y2, y3, y4, us', cs', ts', h1, h2, h3, h4⟩ := hS
  exact ⟨y2, y3, y4, us', cs', ts', h1, fun x => (h2 x).trans (hF x), by omega, h4⟩
theorem rpass_b (s : ByteArray) (hL : L ≤ 1000) (h : Both w0 B d bm rd most sec wr n L m F) :
    Calls Try.prog 14 #[.pointer (some ⟨rd, 0, none⟩), .string s] wr fun e w' => e = .returned (.tuple #[]) ∧ Both w0 B d bm rd most sec w' n (L + 1) m (fun x => if x = s then (0, (F s).2) else F x) := by
  obtain ⟨v2, v3, v4, us, cs, ts, hR, hl, hF⟩ := h.ref
  refine (refPass_any B rd v2 v3 v4 most sec us cs ts s wr (by omega) h.hW hR).mono ?_
  rintro e w' ⟨rfl, hS⟩
  refine ⟨rfl, h.step hR ?_⟩
  obtain ⟨y2, y3, y4, us', cs', ts', h1, h2, h3, h4⟩ := hS
  exact ⟨y2, y3, y4, us', cs', ts', h1, fun x => by rw [h2 x]; simp only [hF], by omega, h4⟩
theorem rfail_bad_b (s : ByteArray) (now : Nat) (hL : L ≤ 900) (ha : askT (F s) now ≠ 0) (h : Both w0 B d bm rd most sec wr n L m F) :
    Calls Try.prog 12 #[.pointer (some ⟨rd, 0, none⟩), .string s, .float .f64 now] wr fun e w' => e = .returned (.int .i64 (askT (F s) now)) ∧ Both w0 B d bm rd most sec w' n (L + 1) m F := by
  obtain ⟨v2, v3, v4, us, cs, ts, hR, hl, hF⟩ := h.ref
  refine (refFail_bad B rd v2 v3 v4 most sec us cs ts s now wr (by omega) h.hW hR (by rw [hF]; exact ha)).mono ?_
  rintro e w' ⟨rfl, hS⟩
  rw [hF]
  refine ⟨rfl, h.step hR ?_⟩
  obtain ⟨y2, y3, y4, us', cs', ts', h1, h2, h3, h4⟩ := hS
  exact ⟨y2, y3, y4, us', cs', ts', h1, fun x => (h2 x).trans (hF x), by omega, h4⟩
theorem rfail_ok_b (s : ByteArray) (now : Nat) (hL : L ≤ 900) (ha : askT (F s) now = 0) (hc0 : 0 ≤ (F s).1) (hc1 : (F s).1 < 9223372036854775807) (h : Both w0 B d bm rd most sec wr n L m F) :
    Calls Try.prog 12 #[.pointer (some ⟨rd, 0, none⟩), .string s, .float .f64 now] wr fun e w' => e = .returned (.int .i64 0) ∧ ∃ r, IsSum now sec r ∧ Both w0 B d bm rd most sec w' n (L + 2) m (fun x => if x = s then (if (F s).1 + 1 = most then (0, r) else ((F s).1 + 1, (F s).2)) else F x) := by
  obtain ⟨v2, v3, v4, us, cs, ts, hR, hl, hF⟩ := h.ref
  refine (refFail_ok B rd v2 v3 v4 most sec us cs ts s now wr (by omega) h.hW hR (by rw [hF]; exact ha) (by rw [hF]; exact hc0) (by rw [hF]; exact hc1)).mono ?_
  rintro e w' ⟨rfl, r, hs, hS⟩
  refine ⟨rfl, r, hs, h.step hR ?_⟩
  obtain ⟨y2, y3, y4, us', cs', ts', h1, h2, h3, h4⟩ := hS
  exact ⟨y2, y3, y4, us', cs', ts', h1, fun x => by rw [h2 x]; simp only [hF], by omega, h4⟩
end

/-! ### The relation, step by step -/
theorem rel_ask {most : Int} {m : ByteArray → Option Tr} {F : ByteArray → Tr} (h : Rel most m F) (s : ByteArray) (now : Nat) : ask m s now = askT (F s) now := by
  unfold ask askT
  rw [(h s).2.1]
/-- What is dropped was never seen. -/
theorem kp_seen (t : Tr) : ((kp t).getD (0, NI)).1 = t.1 ∧ ∀ y, flt y ((kp t).getD (0, NI)).2 = flt y t.2 := by
  unfold kp
  by_cases h : t.1 = 0 ∧ flt NI t.2 = false
  · rw [if_pos h]
    refine ⟨h.1.symm, fun y => ?_⟩
    show flt y NI = _
    rw [flt_NI]
    cases hy : flt y t.2 with
    | false => rfl
    | true => rw [flt_up hy] at h; exact absurd h.2 (by simp)
  · rw [if_neg h]
    exact ⟨rfl, fun _ => rfl⟩
theorem lock_seen {now sec r : Nat} (h : IsSum now sec r) : ((lock now sec).getD (0, NI)).1 = 0 ∧ ∀ y, flt y ((lock now sec).getD (0, NI)).2 = flt y r := by
  rw [← lock_of h]
  exact kp_seen (0, r)
theorem rel_pass {most : Int} {m : ByteArray → Option Tr} {F : ByteArray → Tr} (h : Rel most m F) (hm : 1 ≤ most) (s : ByteArray) : Rel most (passM m s) (fun x => if x = s then (0, (F s).2) else F x) := fun x => by
  unfold passM
  dsimp only
  by_cases hx : x = s
  · subst hx
    rw [tr_put, if_pos rfl]
    obtain ⟨k1, k2⟩ := kp_seen (0, (tr m x).2)
    rw [k1]
    exact ⟨rfl, fun y => (k2 y).trans ((h x).2.1 y), by show (0 : Int) ≤ 0; omega, by show (0 : Int) < most; omega⟩
  · rw [tr_other _ _ hx, if_neg hx]
    exact h x
theorem rel_fail {most : Int} {m : ByteArray → Option Tr} {F : ByteArray → Tr} (h : Rel most m F) (hm : 1 ≤ most) (s : ByteArray) {now sec r : Nat} (hs : IsSum now sec r) :
    Rel most (failM m s now most sec) (fun x => if x = s then (if (F s).1 + 1 = most then (0, r) else ((F s).1 + 1, (F s).2)) else F x) := fun x => by
  unfold failM
  dsimp only
  by_cases hx : x = s
  · subst hx
    obtain ⟨h1, h2, h3, h4⟩ := h x
    rw [tr_put, if_pos rfl, ← h1]
    by_cases hc : (tr m x).1 + 1 = most
    · rw [if_pos hc, if_pos hc]
      obtain ⟨k1, k2⟩ := lock_seen hs
      rw [k1]
      exact ⟨rfl, k2, by omega, by omega⟩
    · rw [if_neg hc, if_neg hc]
      obtain ⟨k1, k2⟩ := kp_seen ((tr m x).1 + 1, (tr m x).2)
      rw [k1]
      exact ⟨rfl, fun y => (k2 y).trans (h2 y), by show (0 : Int) ≤ (tr m x).1 + 1; omega, by show (tr m x).1 + 1 < most; omega⟩
  · rw [tr_other _ _ hx, if_neg hx]
    exact h x

end Go.Proofs.Ytiidjdedeenijaa
