/- Texts of one seat, one behind the other: RoS, RoBa, RoBb, RoL, RoBc, RoBd, RoBe, RoBf, RoBg, RoBh, RoBi, RoBj. -/
import Derived.Test.YtppdopcghnfapaaGreatDoorM5
/- roster: Items, Book. -/
set_option maxRecDepth 100000
namespace Go.Proofs.YtppdopcghnfapaaGreatDoor
open Go.RowKit Go.Joins Go.Shelf Go.Sort Go.Lib

theorem itemsC_any (x : En) (W : World) : Calls Tryz.prog 49 #[env x] W fun e w' => e = .returned (.bool x.k) ∧ Below W.heap.size W w' := by
  obtain ⟨c, k, nm, ⟨g, n, q⟩, o, hn, i, m⟩ := x
  unfold env enc gsv
  go_enter Tryz.func49, Tryz.ntmps49
  go_wp2
  go_ret
  exact ⟨rfl, below1 _ _⟩
theorem bookC_any (x : En) (W : World) : Calls Tryz.prog 48 #[env x] W fun e w' => e = .returned (.bool true) ∧ Below W.heap.size W w' := by
  obtain ⟨c, k, nm, ⟨g, n, q⟩, o, hn, i, m⟩ := x
  unfold env enc gsv
  go_enter Tryz.func48, Tryz.ntmps48
  go_wp2
  go_ret
  exact ⟨rfl, below1 _ _⟩
theorem items_any (w : World) (q mb : Nat) (R : Ro) (h : RA w q mb R) (hks : R.ks.length ≤ 900000) (G : ByteArray → List ByteArray) (hW : RW w R G) :
    Calls Tryz.prog 17 #[.pointer (some ⟨q, 0, none⟩)] w (Chose w R G (·.k)) := by
  have cC := chosen_any w q mb R h hks G hW 49 (·.k) (enters_of Tryz.func49 (by kernel_rfl) rfl) itemsC_any
  clear hks hW h
  go_enter Tryz.func17, Tryz.ntmps17
  go_wp2_with (go_at_call 47; refine cC.mono ?_; clear cC; rintro e w1 ⟨v, es, rfl, h1⟩)
  go_ret
  exact ⟨v, es, rfl, h1⟩
/-- What a book is told as. -/
def bkc (R : Ro) (v : Value) : Array Value := #[.int .i64 R.it, .int .i64 R.ak, .int .u64 R.ver, .int .u64 R.nx, v]
theorem infoBook : (Tryz.prog.info? 40).map (·.size) = some 5 := by kernel_rfl
theorem Chose.base {w w1 w' : World} {R : Ro} {G : ByteArray → List ByteArray} {P : En → Bool} {e : Ending} (h : Chose w1 R G P e w') (hb : Below w.heap.size w w1) : Chose w R G P e w' := by
  obtain ⟨v, es, he, hp, ho, hc, hb'⟩ := h
  have := hb.size
  exact ⟨v, es, he, hp, ⟨ho.1, ho.2.imp id (fun ⟨g, cap, cur, e, hb, r⟩ => ⟨g, cap, cur, e, by omega, r⟩)⟩, fun e he => (hc e he).mono this, hb.trans (hb'.mono this)⟩
theorem Chose.step {w w' w'' : World} {R : Ro} {G : ByteArray → List ByteArray} {P : En → Bool} {e : Ending} {b : Nat} (h : Chose w R G P e w') (hb : w.heap.size ≤ b) {cs : Array Value} (hc : w'.heap[b]? = some (.cells cs 40 (0, 0))) (hk : Keep (fun j => j = b) w' w'') : Chose w R G P e w'' := by
  obtain ⟨u, es, he, hp, ho, hcs, hb'⟩ := h
  refine ⟨u, es, he, hp, own_keep ho hk (fun k e1 e2 => ?_), fun e he => (hcs e he).keep hk (fun c hT e => ?_), hb'.trans (hk.below hb'.size (fun j e => by omega))⟩
  · subst e2
    rcases ho.2 with ⟨rfl, _⟩ | ⟨g, cap, cur, rfl, _, hh, _⟩
    · cases e1
    · cases e1
      rw [hh] at hc
      injection hc with hc
      injection hc with _ hc _
      cases hc
  · subst e
    obtain ⟨cur, hT⟩ := hT
    rw [hT] at hc
    injection hc with hc
    injection hc with _ hc _
    cases hc
set_option maxHeartbeats 1600000 in
theorem book_any (w : World) (q mb : Nat) (R : Ro) (h : RA w q mb R) (hks : R.ks.length ≤ 900000) (G : ByteArray → List ByteArray) (hW : RW w R G) :
    Calls Tryz.prog 15 #[.pointer (some ⟨q, 0, none⟩)] w fun e w' => ∃ v, e = .returned (.agg (bkc R v)) ∧ Chose w R G (fun _ => true) (.returned v) w' := by
  have HC : Hid (∀ w1, Below w.heap.size w w1 → Calls Tryz.prog 47 #[.pointer (some ⟨q, 0, none⟩), .func (.func 48) #[] #[]] w1 (Chose w1 R G (fun _ => true))) := fun w1 hb => chosen_any w1 q mb R (h.below hb) hks G (hW.keep (S := fun _ => False) (Keep.ofBelow hb) (fun _ _ h => h)) 48 (fun _ => true) (enters_of Tryz.func48 (by kernel_rfl) rfl) bookC_any
  have HR : Hid (RA w q mb R) := h
  have cC := HC.out (w.alloc (.cells #[.int .i64 0, .int .i64 0, .int .u64 0, .int .u64 0, .slice none 0 0] 40)) (below1 _ _)
  have HZ : Hid ((w.alloc (.cells #[.int .i64 0, .int .i64 0, .int .u64 0, .int .u64 0, .slice none 0 0] 40)).heap[w.heap.size]? = some (.cells #[.int .i64 0, .int .i64 0, .int .u64 0, .int .u64 0, .slice none 0 0] 40 (0, 0))) := alloc_at w _
  have HB : Hid (Below w.heap.size w (w.alloc (.cells #[.int .i64 0, .int .i64 0, .int .u64 0, .int .u64 0, .slice none 0 0] 40))) := below1 _ _
  clear h hks hW HC
  go_enter Tryz.func15, Tryz.ntmps15
  go_upto_region 1 with fail
  generalize w.alloc _ = W at cC HZ HB ⊢
  obtain ⟨B, Hb⟩ : ∃ B, Hid (w.heap.size = B) := ⟨_, rfl⟩
  rw [Hb.out] at HZ ⊢
  go_upto_region 2 with (first
    | (go_at_call 47; refine cC.mono ?_; clear cC; rintro e w2 ⟨v, es, rfl, hp, ho, hc, hb⟩; obtain ⟨av, cv, hv⟩ := ownT_sl ho; subst hv))
  have HCh : Hid (Chose w R G (fun _ => true) (.returned (.slice av es.length cv)) w2) := Chose.base ⟨_, es, rfl, hp, ho, hc, hb⟩ HB.out
  have HZ2 : Hid (w2.heap[B]? = some (.cells #[.int .i64 0, .int .i64 0, .int .u64 0, .int .u64 0, .slice none 0 0] 40 (0, 0))) := (hb.block B (Array.getElem?_eq_some_iff.1 HZ.out).1).trans HZ.out
  generalize es.length = l at HCh ⊢
  have HS0 : RA w2.drew q mb R := ((HR.out.below HB.out).below hb).drew
  clear hp ho hc hb HZ HB
  refine wp_region_lx (fun w' => RA w' q mb R) [] 19 (by kernel_rfl) (by kernel_rfl) ?_
  refine lx_r 0 (.pointer (some ⟨q, 0, none⟩)) HS0 ?_; simp only [lxa, lxb, lxc]
  refine lx_r 1 (.pointer (some ⟨q, 0, none⟩)) HS0 ?_; simp only [lxa, lxb, lxc]
  refine lx_r 2 (.pointer (some ⟨q, 0, none⟩)) HS0 ?_; simp only [lxa, lxb, lxc]
  refine lx_r 3 (.int .i64 R.it) HS0 ?_ (hv := fun w' hS => by have p := hS.c0; first | (go_simp; rfl) | go_simp); simp only [lxa, lxb, lxc]
  refine lx_r 4 (.pointer (some ⟨q, 0, none⟩)) HS0 ?_; simp only [lxa, lxb, lxc]
  refine lx_r 5 (.pointer (some ⟨q, 0, none⟩)) HS0 ?_; simp only [lxa, lxb, lxc]
  refine lx_r 6 (.pointer (some ⟨q, 1, none⟩)) HS0 ?_; simp only [lxa, lxb, lxc]
  refine lx_r 7 (.int .i64 R.ak) HS0 ?_ (hv := fun w' hS => by have p := hS.c1; first | (go_simp; rfl) | go_simp); simp only [lxa, lxb, lxc]
  refine lx_r 8 (.pointer (some ⟨q, 0, none⟩)) HS0 ?_; simp only [lxa, lxb, lxc]
  refine lx_r 9 (.pointer (some ⟨q, 0, none⟩)) HS0 ?_; simp only [lxa, lxb, lxc]
  refine lx_r 10 (.pointer (some ⟨q, 2, none⟩)) HS0 ?_; simp only [lxa, lxb, lxc]
  refine lx_r 11 (.int .u64 R.ver) HS0 ?_ (hv := fun w' hS => by have p := hS.c2; first | (go_simp; rfl) | go_simp); simp only [lxa, lxb, lxc]
  refine lx_r 12 (.pointer (some ⟨q, 0, none⟩)) HS0 ?_; simp only [lxa, lxb, lxc]
  refine lx_r 13 (.pointer (some ⟨q, 0, none⟩)) HS0 ?_; simp only [lxa, lxb, lxc]
  refine lx_r 14 (.pointer (some ⟨q, 3, none⟩)) HS0 ?_; simp only [lxa, lxb, lxc]
  refine lx_r 15 (.int .u64 R.nx) HS0 ?_ (hv := fun w' hS => by have p := hS.c3; first | (go_simp; rfl) | go_simp); simp only [lxa, lxb, lxc]
  refine lx_r 16 (.slice av l cv) HS0 ?_; simp only [lxa, lxb, lxc]
  refine lx_r 17 (.agg #[.int .i64 R.it, .int .i64 R.ak, .int .u64 R.ver, .int .u64 R.nx, .slice av l cv]) HS0 ?_; simp only [lxa, lxb, lxc]
  have HCD : Chose w R G (fun _ => true) (.returned (.slice av l cv)) w2.drew := HCh.out.step (b := B) (by have := Hb.out; omega) HZ2.out ((Keep.refl (fun j => j = B) w2).drew)
  have HZD : w2.drew.heap[B]? = some (.cells #[.int .i64 0, .int .i64 0, .int .u64 0, .int .u64 0, .slice none 0 0] 40 (0, 0)) := HZ2.out
  have hne : B ≠ q ∧ B ≠ mb := by have := HR.out.lt; have := HR.out.map.lt; have := Hb.out; omega
  have hk := rowK w2.drew B (bkc R (.slice av l cv))
  refine lx_one 18 (by kernel_rfl) (stepT_store (w' := w2.drew.setRow B (bkc R (.slice av l cv))) rfl rfl rfl ?cd (fun _ => HS0.keep hk (fun e => hne.1 e.symm) (fun e => hne.2 e.symm)) ?_)
  case cd => exact exec_store_row 40 (.tmp 2) (.tmp 23) rfl B (bkc R (.slice av l cv)) _ rfl rfl HZD (by rw [infoBook]; rfl) (by rfl) (by simp [bkc, Value.oneCell'])
  have HZ3 := setRow_heap w2.drew B _ (bkc R (.slice av l cv)) 40 (0, 0) HZD
  have HC3 := HCD.step (b := B) (by have := Hb.out; omega) HZD hk
  generalize w2.drew.setRow _ _ = W3 at HZ3 HC3 ⊢
  clear HS0 HCD HZD hk hne HZ2 HCh
  refine lx_nil (by kernel_rfl) ?_
  go_wp2
  refine bodyPost_ret (v := .agg (bkc R (.slice av l cv))) ?_ rfl ⟨_, rfl, HC3⟩
  exact results_cell_row rfl _ _ B 40 _ (0, 0) _ rfl HZ3 Tryz.underlying40 rfl (by rw [infoBook]; rfl)
end Go.Proofs.YtppdopcghnfapaaGreatDoor

/- roster: drop. -/
set_option maxRecDepth 100000
namespace Go.Proofs.YtppdopcghnfapaaGreatDoor
open Go.RowKit Go.Joins Go.Shelf Go.Sort Go.Lib

/-- What Drop answers. -/
def dropP (R : Ro) (c : ByteArray) : En × Nat × Ro := if (ofE R c).k = true then (ofE R c, 0, { layR R (en0 c) with ver := R.ver + 1 }) else (en0 ⟨#[]⟩, 7, R)
def dropS (R : Ro) (s : ByteArray) : En × Nat × Ro := if prepE s = 0 then dropP R (prepB s) else (en0 ⟨#[]⟩, prepE s, R)
set_option maxHeartbeats 1600000 in
theorem drop_any (w : World) (q mb : Nat) (R : Ro) (h : RA w q mb R) (hG : RG R) (c : ByteArray) (hc : c.size ≤ 1000000) :
    Calls Tryz.prog 55 #[.pointer (some ⟨q, 0, none⟩), .string c] w fun e w' => GaveV (dropP R c).2.1 (.agg (enc (dropP R c).1)) e ∧ RA w' q mb (dropP R c).2.2 ∧ Keep (fun j => j = q ∨ j = mb) w w' := by
  have hxc : (ofE R c).c.size ≤ 1000000 := by rw [hG.of]; exact hc
  have cO := of_any (w.alloc (.cells #[.string ⟨#[]⟩, .bool false, .string ⟨#[]⟩, .slice none 0 0, .int .i64 0, .int .u64 0, .int .i64 0, .int .u64 0] 51)) q mb R (h.below (below1 _ _)) c hc
  have CL : Hid (∀ w', RA w' q mb R → Calls Tryz.prog 80 #[.pointer (some ⟨q, 0, none⟩), .agg #[.string c, .bool false, .string ⟨#[]⟩, .slice none 0 0, .int .i64 0, .int .u64 0, .int .i64 0, .int .u64 0]] w' fun e w'' => e = .returned (.tuple #[]) ∧ RA w'' q mb (layR R (en0 c)) ∧ Keep (fun j => j = q ∨ j = mb) w' w'') :=
    fun w' h' => lay_any w' q mb R h' (en0 c) hc hG.ks (by have := hG.kept; omega)
  have HV0 : Hid (0 ≤ R.ver ∧ R.ver < 9223372036854775807) := hG.ver
  have HR : Hid (RA w q mb R) := h
  have hz : EnAt (w.alloc (.cells #[.string ⟨#[]⟩, .bool false, .string ⟨#[]⟩, .slice none 0 0, .int .i64 0, .int .u64 0, .int .i64 0, .int .u64 0] 51)) w.heap.size (en0 ⟨#[]⟩) := push_at _ _ rfl
  unfold dropP
  generalize ofE R c = x at *
  have h0b : Below w.heap.size w (w.alloc (.cells #[.string ⟨#[]⟩, .bool false, .string ⟨#[]⟩, .slice none 0 0, .int .i64 0, .int .u64 0, .int .i64 0, .int .u64 0] 51)) := below1 _ _
  have HZ : Hid (EnAt (w.alloc (.cells #[.string ⟨#[]⟩, .bool false, .string ⟨#[]⟩, .slice none 0 0, .int .i64 0, .int .u64 0, .int .i64 0, .int .u64 0] 51)) w.heap.size (en0 ⟨#[]⟩) ∧ Below w.heap.size w (w.alloc (.cells #[.string ⟨#[]⟩, .bool false, .string ⟨#[]⟩, .slice none 0 0, .int .i64 0, .int .u64 0, .int .i64 0, .int .u64 0] 51))) := ⟨hz, h0b⟩
  clear hz h0b h hG hc hxc
  rw [show env x = .agg (enc x) from rfl] at cO
  unfold enc gsv at cO
  cases ht : x.k with
  | true =>
    rw [ht] at cO
    rw [if_pos rfl]
    dsimp only
    go_enter Tryz.func55, Tryz.ntmps55
    go_upto_region 2 with (first
      | (go_at_call 92; refine cO.mono ?_; clear cO; rintro e w1 ⟨rfl, hb1⟩))
    have A1 : Hid (EnAt (w1.alloc (.cells (enc x) 51)) w1.heap.size x ∧ EnAt (w1.alloc (.cells (enc x) 51)) w.heap.size (en0 ⟨#[]⟩) ∧ Below w.heap.size w (w1.alloc (.cells (enc x) 51)) ∧ w.heap.size < w1.heap.size) := by
      have l1 := HZ.out.1.lt
      have l2 := hb1.size
      exact ⟨EnAt.made _ _, (HZ.out.1.carry hb1).carry (below1 _ _), ((HZ.out.2.trans (hb1.mono (by have := HZ.out.2.size; omega))).alloc (by omega) _), by omega⟩
    unfold enc gsv at A1
    rw [ht] at A1
    clear hb1
    obtain ⟨B, HB⟩ : ∃ B, Hid (w1.heap.size = B) := ⟨_, rfl⟩
    rw [HB.out] at A1 ⊢
    generalize w1.alloc _ = W at A1 ⊢
    have k1 := A1.out.1.c1
    rw [ht] at k1
    go_upto_region 3 with (first
      | (go_at_call 69; refine (demR_ok 7 _).mono ?_; rintro e w3 ⟨rfl, hw3⟩; replace hw3 := hw3.symm; subst hw3))
    clear k1
    have RW1 : RA W q mb R := HR.out.below A1.out.2.2.1
    have cL := CL.out W RW1
    go_upto_region 4 with (first
      | (go_at_call 80; refine cL.mono ?_; clear cL; rintro e w4 ⟨rfl, h4, k4⟩))
    have c2 := h4.c2
    have f2 := h4.fz 2
    have ev := layR_ver R (en0 c)
    have wv : IntKind.wrap .u64 (R.ver + 1) = R.ver + 1 := by have := HV0.out; simp [IntKind.wrap, IntKind.bits, IntKind.signed]; omega
    rw [ev] at c2
    have HQ : Hid (q < w.heap.size ∧ mb < w.heap.size) := ⟨HR.out.lt, HR.out.map.lt⟩
    have h5 : Hid (RA (w4.setCell ⟨q, 2, none⟩ (.int .u64 (R.ver + 1))) q mb { layR R (en0 c) with ver := R.ver + 1 }) := h4.set 2 _ _ rfl rfl rfl
    have k5 : Hid (Keep (fun j => j = q ∨ j = mb) W (w4.setCell ⟨q, 2, none⟩ (.int .u64 (R.ver + 1)))) := k4.trans ((setK w4 q 2 (.int .u64 (R.ver + 1))).mono (fun i e => Or.inl e))
    clear h4 k4 ev RW1
    go_upto_region 5 with fail
    generalize w4.setCell _ _ = w5 at h5 k5 ⊢
    have E5 : Hid (EnAt w5 B x) := A1.out.1.keep k5.out (by have := HB.out; have := HQ.out; have := A1.out.2.2.2; omega)
    have Z5 : Hid (EnAt w5 w.heap.size (en0 ⟨#[]⟩)) := A1.out.2.1.keep k5.out (by have := HQ.out; omega)
    clear c2 f2 wv
    go_wp2_with (first
      | (refine wp_load_en rfl (.tmp 5) rfl B rfl x E5.out ?_)
      | (refine wp_store_en rfl (.tmp 4) (.tmp 23) rfl w.heap.size rfl x rfl _ Z5.out ?_))
    have e1 := Z5.out.set x
    have kr := rowK w5 w.heap.size (enc x)
    have kk : Keep (fun j => j = q ∨ j = mb) w (w5.setRow w.heap.size (enc x)) := by
      have k0 : Keep (fun j => j = q ∨ j = mb) w w5 := (Keep.ofBelow A1.out.2.2.1).trans k5.out
      refine ⟨k0.os, k0.tape, k0.output, by have := k0.size; simpa using this, fun j hj hs => ?_⟩
      rw [setRow_other w5 w.heap.size j _ (by omega)]
      exact k0.block j hj hs
    refine bodyPost_ret (v := env x) ?_ rfl ⟨gv_ok rfl, h5.out.keep kr (by have := HQ.out; omega) (by have := HQ.out; omega), kk⟩
    exact res_en rfl _ _ w.heap.size _ rfl e1
  | false =>
    rw [ht] at cO
    rw [if_neg (by decide)]
    go_enter Tryz.func55, Tryz.ntmps55
    go_upto_region 2 with (first
      | (go_at_call 92; refine cO.mono ?_; clear cO; rintro e w1 ⟨rfl, hb1⟩))
    have A1 : Hid (EnAt (w1.alloc (.cells (enc x) 51)) w1.heap.size x ∧ Below w.heap.size w (w1.alloc (.cells (enc x) 51))) := by
      have l1 := HZ.out.1.lt
      have l2 := hb1.size
      exact ⟨EnAt.made _ _, ((HZ.out.2.trans (hb1.mono (by have := HZ.out.2.size; omega))).alloc (by omega) _)⟩
    unfold enc gsv at A1
    rw [ht] at A1
    clear hb1
    generalize w1.alloc _ = W at A1 ⊢
    have k1 := A1.out.1.c1
    rw [ht] at k1
    go_wp2_with (first
      | (go_at_call 69; refine (demR_no 7 _).mono ?_; rintro e w3 ⟨rfl, hw3⟩; replace hw3 := hw3.symm; subst hw3))
    exact ⟨rfl, gv_no (show (7 : Nat) ≠ 0 by decide) rfl, HR.out.below A1.out.2, Keep.ofBelow A1.out.2⟩
end Go.Proofs.YtppdopcghnfapaaGreatDoor

/- roster: put. -/
set_option maxRecDepth 100000
namespace Go.Proofs.YtppdopcghnfapaaGreatDoor
open Go.RowKit Go.Joins Go.Shelf Go.Sort Go.Lib

/-- Why Put gives up, if it does. -/
def putE (R : Ro) (c nm : ByteArray) (gs : List ByteArray) : Nat := if textE nm ≠ 0 then textE nm else if groupsE gs ≠ 0 then groupsE gs else if roomB R (ofE R c) = true then 0 else 8
/-- What Put keeps, its groups at g. -/
def putN (R : Ro) (c nm : ByteArray) (g : Gr) : En := { ofE R c with k := true, nm := nm, g := g }
/-- What Put does, as it ends. -/
def Putt (w : World) (q mb : Nat) (R : Ro) (c nm : ByteArray) (gs : List ByteArray) (e : Ending) (w' : World) : Prop :=
  (putE R c nm gs ≠ 0 ∧ e = .panicked (gaveR (putE R c nm gs)) ∧ RA w' q mb R ∧ Keep (fun j => j = q ∨ j = mb) w w') ∨
  (putE R c nm gs = 0 ∧ ∃ g g' : Gr, e = .returned (env (putN R c nm g')) ∧ RA w' q mb { layR R (putN R c nm g) with ver := R.ver + 1 } ∧ GRd w' (gad g) g.2.1 g.2.2 (inOrdK gs) ∧ GB w' w.heap.size g ∧ g.2.1 ≤ 8 ∧ GRd w' (gad g') g'.2.1 g'.2.2 (inOrdK gs) ∧ GB w' w.heap.size g' ∧ Keep (fun j => j = q ∨ j = mb) w w')
theorem textE_le {s : ByteArray} (h : textE s = 0) : s.size ≤ 64 := by
  unfold textE at h
  by_cases h1 : 64 < s.size
  · rw [if_pos h1] at h; cases h
  · omega
theorem groupE_le {s : ByteArray} (h : groupE s = 0) : s.size ≤ 64 := by
  unfold groupE at h
  by_cases h1 : textE s = 0
  · exact textE_le h1
  · rw [if_pos h1] at h; exact absurd h h1
theorem groupsE_le {gs : List ByteArray} (h : groupsE gs = 0) : gs.length ≤ 8 ∧ ∀ s ∈ gs, s.size ≤ 64 := by
  unfold groupsE at h
  by_cases h1 : 8 < gs.length
  · rw [if_pos h1] at h; cases h
  · rw [if_neg h1] at h
    exact ⟨by omega, fun s hs => groupE_le (firstG_ok h s hs)⟩
theorem compact_mem {zs : List (List UInt8)} {z : List UInt8} (h : z ∈ Lib.compact zs) : z ∈ zs := by
  unfold Lib.compact Lib.compactUpTo at h
  obtain ⟨j, hj, rfl⟩ := List.mem_map.1 h
  have hj := List.mem_range.1 (List.mem_filter.1 hj).1
  rw [getElem!_pos _ j (by simpa using hj)]
  simp
theorem inOrdK_mem {gs : List ByteArray} {s : ByteArray} (h : s ∈ inOrdK gs) : s ∈ gs := by
  unfold inOrdK compT at h
  obtain ⟨z, hz, rfl⟩ := List.mem_map.1 h
  have hz := compact_mem hz
  unfold sortT at hz
  rw [bl_lb, List.mem_mergeSort] at hz
  obtain ⟨t, ht, rfl⟩ := List.mem_map.1 hz
  exact ht
set_option maxHeartbeats 3200000 in
theorem put_any (w : World) (q mb : Nat) (R : Ro) (h : RA w q mb R) (hG : RG R) (c nm : ByteArray) (hc : c.size ≤ 1000000) (hn : nm.size ≤ 281474976710656) (a : Option Addr) (n cc : Nat) (gs : List ByteArray) (hg : GRd w a n cc gs) (hgn : n ≤ 100000) (hgs : ∀ s ∈ gs, s.size ≤ 281474976710656) (hT : Lib.Utf8Tabs 2 3 w) :
    Calls Tryz.prog 52 #[.pointer (some ⟨q, 0, none⟩), .string c, .string nm, .slice a n cc] w (Putt w q mb R c nm gs) := by
  have HR : Hid (RA w q mb R) := h
  have HT : Hid (Lib.Utf8Tabs 2 3 w) := hT
  have Hgd : Hid (GRd w a n cc gs) := hg
  have HC1 : Hid (∀ w', Below w.heap.size w w' → Calls Tryz.prog 89 #[.string nm] w' fun e w'' => GaveV (textE nm) (.tuple #[]) e ∧ Below w'.heap.size w' w'') := fun w' hb => checkText_any nm w' hn (tabs_bel HT.out hb)
  have HC2 : Hid (∀ w', Below w.heap.size w w' → Calls Tryz.prog 90 #[.slice a n cc] w' fun e w'' => GaveV (groupsE gs) (.tuple #[]) e ∧ Below w'.heap.size w' w'') := fun w' hb => checkGroups_any a n cc gs w' (Hgd.out.below hb) hgn hgs (tabs_bel HT.out hb)
  have HZ : Hid (EnAt (w.alloc (.cells #[.string ⟨#[]⟩, .bool false, .string ⟨#[]⟩, .slice none 0 0, .int .i64 0, .int .u64 0, .int .i64 0, .int .u64 0] 51)) w.heap.size (en0 ⟨#[]⟩) ∧ Below w.heap.size w (w.alloc (.cells #[.string ⟨#[]⟩, .bool false, .string ⟨#[]⟩, .slice none 0 0, .int .i64 0, .int .u64 0, .int .i64 0, .int .u64 0] 51))) := ⟨push_at _ _ rfl, below1 _ _⟩
  clear h hT hg
  by_cases h1 : textE nm = 0
  · have HC1' : Hid (∀ w', Below w.heap.size w w' → Calls Tryz.prog 89 #[.string nm] w' fun e w'' => e = .returned (.tuple #[]) ∧ Below w'.heap.size w' w'') := fun w' hb => (HC1.out w' hb).mono (fun e w'' h => by
      rcases h.1 with ⟨_, h2⟩ | ⟨h2, _⟩
      · exact ⟨h2, h.2⟩
      · exact absurd h1 h2)
    by_cases h2 : groupsE gs = 0
    · have HC2' : Hid (∀ w', Below w.heap.size w w' → Calls Tryz.prog 90 #[.slice a n cc] w' fun e w'' => e = .returned (.tuple #[]) ∧ Below w'.heap.size w' w'') := fun w' hb => (HC2.out w' hb).mono (fun e w'' h => by
        rcases h.1 with ⟨_, h3⟩ | ⟨h3, _⟩
        · exact ⟨h3, h.2⟩
        · exact absurd h2 h3)
      have hxc : (ofE R c).c.size ≤ 1000000 := by rw [hG.of]; exact hc
      have HO : Hid (∀ w', RA w' q mb R → Calls Tryz.prog 92 #[.pointer (some ⟨q, 0, none⟩), .string c] w' fun e w'' => e = .returned (env (ofE R c)) ∧ Below w'.heap.size w' w'') := fun w' h' => of_any w' q mb R h' c hc
      have HAs : Hid (∀ w', RA w' q mb R → Calls Tryz.prog 91 #[.pointer (some ⟨q, 0, none⟩), env (ofE R c)] w' fun e w'' => ((roomB R (ofE R c) = true ∧ e = .returned (env { ofE R c with k := true })) ∨ (roomB R (ofE R c) = false ∧ e = .panicked (gaveR 8))) ∧ Below w'.heap.size w' w'') := fun w' h' => asItem_any w' q mb R h' (ofE R c)
      have HPE : Hid (putE R c nm gs = if roomB R (ofE R c) = true then 0 else 8) := by show _ = _; unfold putE; rw [if_neg (fun e => e h1), if_neg (fun e => e h2)]
      have HPN : Hid (∀ g, putN R c nm g = { ofE R c with k := true, nm := nm, g := g }) := fun g => rfl
      have cA := HC1'.out _ HZ.out.2
      clear HC1 HC2
      generalize ofE R c = x at *
      cases hr : roomB R x with
      | false =>
        obtain ⟨V, HV⟩ : ∃ V, Hid (env x = V) := ⟨_, rfl⟩
        have HAs' : Hid (∀ w', RA w' q mb R → Calls Tryz.prog 91 #[.pointer (some ⟨q, 0, none⟩), V] w' fun e w'' => e = .panicked (gaveR 8) ∧ Below w'.heap.size w' w'') := fun w' h' => by
          have := HAs.out w' h'
          rw [HV.out] at this
          exact this.mono (fun e w'' h => by
            rcases h.1 with ⟨h3, _⟩ | ⟨_, h3⟩
            · rw [hr] at h3; cases h3
            · exact ⟨h3, h.2⟩)
        have HP : Hid (putE R c nm gs = 8) := by show _ = _; rw [HPE.out, hr]; rfl
        rw [HV.out] at HO
        clear HAs HPE hr hG hc hn hgn hgs h1 h2 hxc HPN
        go_enter Tryz.func52, Tryz.ntmps52
        go_wp2_with (first
          | (go_at_call 89; refine cA.mono ?_; clear cA; rintro e w2 ⟨rfl, hb2⟩; have B2 := HZ.out.2.trans (hb2.mono (HZ.out.2.size)); have cB := HC2'.out w2 B2)
          | (go_at_call 90; refine cB.mono ?_; clear cB; rintro e w3 ⟨rfl, hb3⟩; have B3 := B2.trans (hb3.mono B2.size); have cO := HO.out w3 (HR.out.below B3))
          | (go_at_call 92; refine cO.mono ?_; clear cO; rintro e w4 ⟨rfl, hb4⟩; have B4 := B3.trans (hb4.mono B3.size); have cI := HAs'.out w4 (HR.out.below B4))
          | (go_at_call 91; refine cI.mono ?_; clear cI; rintro e w5 ⟨rfl, hb5⟩))
        have B5 := B4.trans (hb5.mono B4.size)
        exact ⟨rfl, Or.inl (by rw [HP.out]; exact ⟨by decide, rfl, HR.out.below B5, Keep.ofBelow B5⟩)⟩
      | true =>
        obtain ⟨V, HV⟩ : ∃ V, Hid (env x = V) := ⟨_, rfl⟩
        have HAs' : Hid (∀ w', RA w' q mb R → Calls Tryz.prog 91 #[.pointer (some ⟨q, 0, none⟩), V] w' fun e w'' => e = .returned (.agg #[.string x.c, .bool true, .string x.nm, .slice (gad x.g) x.g.2.1 x.g.2.2, .int .i64 x.h.o, .int .u64 x.h.n, .int .i64 x.h.i, .int .u64 x.h.m]) ∧ Below w'.heap.size w' w'') := fun w' h' => by
          have := HAs.out w' h'
          rw [HV.out] at this
          exact this.mono (fun e w'' h => by
            rcases h.1 with ⟨_, h3⟩ | ⟨h3, _⟩
            · exact ⟨h3, h.2⟩
            · rw [hr] at h3; cases h3)
        have HP : Hid (putE R c nm gs = 0) := by show _ = _; rw [HPE.out, hr]; rfl
        have HI : Hid (∀ w', Below w.heap.size w w' → Calls Tryz.prog 94 #[.slice a n cc] w' fun e w'' => ∃ g : Gr, e = .returned (gsv g) ∧ GRd w'' (gad g) g.2.1 g.2.2 (inOrdK gs) ∧ GB w'' w'.heap.size g ∧ g.2.1 ≤ n ∧ Below w'.heap.size w' w'') := fun w' hb => inOrder_any a n cc gs w' (Hgd.out.below hb) hgn hgs
        have HCl : Hid (∀ w', Calls Tryz.prog 93 #[.string nm] w' fun e w'' => e = .returned (.string nm) ∧ Below w'.heap.size w' w'') := fun w' => clone_any nm w' hn
        have Hn8 : Hid (n ≤ 8) := by have := (groupsE_le h2).1; rw [Hgd.out.len] at this; exact this
        have Hnm : Hid (nm.size ≤ 64) := textE_le h1
        have Hg64 : Hid (∀ s ∈ inOrdK gs, s.size ≤ 281474976710656) := fun s hs => by have := (groupsE_le h2).2 s (inOrdK_mem hs); omega
        have Hxc : Hid (x.c.size ≤ 1000000) := hxc
        have HGG : Hid (RG R) := hG
        rw [HV.out] at HO
        clear HAs HPE hr hG hc hn hgn hgs h1 h2 hxc
        go_enter Tryz.func52, Tryz.ntmps52
        go_upto_region 4 with (first
          | (go_at_call 89; refine cA.mono ?_; clear cA; rintro e w2 ⟨rfl, hb2⟩; have B2 := HZ.out.2.trans (hb2.mono (HZ.out.2.size)); have cB := HC2'.out w2 B2)
          | (go_at_call 90; refine cB.mono ?_; clear cB; rintro e w3 ⟨rfl, hb3⟩; have B3 := B2.trans (hb3.mono B2.size); have cO := HO.out w3 (HR.out.below B3))
          | (go_at_call 92; refine cO.mono ?_; clear cO; rintro e w4 ⟨rfl, hb4⟩; have B4 := B3.trans (hb4.mono B3.size); have cI := HAs'.out w4 (HR.out.below B4))
          | (go_at_call 91; refine cI.mono ?_; clear cI; rintro e w5 ⟨rfl, hb5⟩; have B5 := B4.trans (hb5.mono B4.size)))
        have A5 : Hid (EnAt (w5.alloc (.cells #[.string x.c, .bool true, .string x.nm, .slice (gad x.g) x.g.2.1 x.g.2.2, .int .i64 x.h.o, .int .u64 x.h.n, .int .i64 x.h.i, .int .u64 x.h.m] 51)) w5.heap.size { x with k := true } ∧ EnAt (w5.alloc (.cells #[.string x.c, .bool true, .string x.nm, .slice (gad x.g) x.g.2.1 x.g.2.2, .int .i64 x.h.o, .int .u64 x.h.n, .int .i64 x.h.i, .int .u64 x.h.m] 51)) w.heap.size (en0 ⟨#[]⟩) ∧ Below w.heap.size w (w5.alloc (.cells #[.string x.c, .bool true, .string x.nm, .slice (gad x.g) x.g.2.1 x.g.2.2, .int .i64 x.h.o, .int .u64 x.h.n, .int .i64 x.h.i, .int .u64 x.h.m] 51)) ∧ w.heap.size < w5.heap.size) := by
          have z5 := (((HZ.out.1.carry hb2).carry hb3).carry hb4).carry hb5
          exact ⟨alloc_at w5 _, z5.carry (below1 _ _), B5.alloc B5.size _, z5.lt⟩
        clear hb2 hb3 hb4 hb5 B2 B3 B4 B5
        obtain ⟨B, HB⟩ : ∃ B, Hid (w5.heap.size = B) := ⟨_, rfl⟩
        rw [HB.out] at A5 ⊢
        generalize w5.alloc _ = W at A5 ⊢
        go_upto_region 5 with (first
          | (go_at_call 93; refine (HCl.out _).mono ?_; rintro e w6 ⟨rfl, hb6⟩; have B6 := A5.out.2.2.1.trans (hb6.mono A5.out.2.2.1.size); have cI := HI.out w6 B6)
          | (go_at_call 94; refine cI.mono ?_; clear cI; rintro e w7 ⟨g, rfl, hg7, hgb7, hgn7, hb7⟩; unfold gsv; have E7 := (A5.out.1.carry hb6).carry hb7; have r2 := E7.c2; have r3 := E7.c3; have f2 := E7.fz 2; have f3 := E7.fz 3))
        have B7 := B6.trans (hb7.mono B6.size)
        have Z7 := (A5.out.2.1.carry hb6).carry hb7
        have P8 : Hid (EnAt ((w7.setCell ⟨B, 2, none⟩ (.string nm)).setCell ⟨B, 3, none⟩ (.slice (gad g) g.2.1 g.2.2)) B { x with k := true, nm := nm, g := g }) := block_setCell (i := 3) (block_setCell (i := 2) E7 (.string nm)) _
        have k8 : Keep (fun j => j = B) w7 ((w7.setCell ⟨B, 2, none⟩ (.string nm)).setCell ⟨B, 3, none⟩ (.slice (gad g) g.2.1 g.2.2)) := (setK _ B 2 _).trans (setK _ B 3 _)
        have hBl : Hid (w.heap.size < B ∧ B < w6.heap.size) := ⟨by have := HB.out; have := A5.out.2.2.2; omega, by have := A5.out.1.lt; have := hb6.size; omega⟩
        have gne : Hid (∀ b, g.1 = some b → b ≠ B ∧ w.heap.size < b) := fun b e => by have := (hgb7 b e).1; have := hBl.out; omega
        have N8 : Hid (GRd ((w7.setCell ⟨B, 2, none⟩ (.string nm)).setCell ⟨B, 3, none⟩ (.slice (gad g) g.2.1 g.2.2)) (gad g) g.2.1 g.2.2 (inOrdK gs) ∧ GB ((w7.setCell ⟨B, 2, none⟩ (.string nm)).setCell ⟨B, 3, none⟩ (.slice (gad g) g.2.1 g.2.2)) w.heap.size g) :=
          ⟨hg7.keep k8 (fun ad e => (gne.out ad.block (gad_some e)).1), (hgb7.keep k8 (fun b e => (gne.out b e).1)).mono (by have := hBl.out; omega)⟩
        have hg8 : Hid (g.2.1 ≤ 8) := by have := Hn8.out; show _ ≤ _; omega
        have B8 : Hid (Below w.heap.size w ((w7.setCell ⟨B, 2, none⟩ (.string nm)).setCell ⟨B, 3, none⟩ (.slice (gad g) g.2.1 g.2.2))) := B7.trans (k8.below B7.size (fun j e => by have := hBl.out; omega))
        have Z8 : Hid (EnAt ((w7.setCell ⟨B, 2, none⟩ (.string nm)).setCell ⟨B, 3, none⟩ (.slice (gad g) g.2.1 g.2.2)) w.heap.size (en0 ⟨#[]⟩)) := Z7.keep k8 (by have := hBl.out; omega)
        clear r2 r3 f2 f3 E7 Z7 B7 k8 hb7 hgb7 hg7 hb6 B6 A5 hgn7
        generalize (w7.setCell _ _).setCell _ _ = W8 at P8 N8 B8 Z8 ⊢
        obtain ⟨Y, HY⟩ : ∃ Y : En, Hid (({ x with k := true, nm := nm, g := g } : En) = Y) := ⟨_, rfl⟩
        rw [HY.out] at P8
        have HYc : Hid (Y.c = x.c ∧ Y.nm = nm ∧ Y.g = g) := by rw [← HY.out]; exact ⟨rfl, rfl, rfl⟩
        obtain ⟨VY, HVY⟩ : ∃ VY, Hid (env Y = VY) := ⟨_, rfl⟩
        have cL := lay_any W8 q mb R (HR.out.below B8.out) Y (by rw [HYc.out.1]; exact Hxc.out) HGG.out.ks (by have := HGG.out.kept; omega)
        rw [HVY.out] at cL
        have HQ : Hid (q < w.heap.size ∧ mb < w.heap.size) := ⟨HR.out.lt, HR.out.map.lt⟩
        go_upto_region 6 with (first
          | (refine wp_load_en rfl (.tmp 9) rfl B rfl Y P8.out ?_; rw [HVY.out])
          | (go_at_call 80; refine cL.mono ?_; clear cL; rintro e w9 ⟨rfl, h9, k9⟩))
        have c2 := h9.c2
        have f2 := h9.fz 2
        have wv : IntKind.wrap .u64 (R.ver + 1) = R.ver + 1 := by have := HGG.out.ver; simp [IntKind.wrap, IntKind.bits, IntKind.signed]; omega
        rw [layR_ver R Y] at c2
        have h10 : Hid (RA (w9.setCell ⟨q, 2, none⟩ (.int .u64 (R.ver + 1))) q mb { layR R Y with ver := R.ver + 1 }) := h9.set 2 _ _ rfl rfl rfl
        have k10 : Hid (Keep (fun j => j = q ∨ j = mb) W8 (w9.setCell ⟨q, 2, none⟩ (.int .u64 (R.ver + 1)))) := k9.trans ((setK w9 q 2 (.int .u64 (R.ver + 1))).mono (fun i e => Or.inl e))
        clear h9 k9
        go_upto_region 7 with fail
        generalize w9.setCell _ _ = w10 at h10 k10 ⊢
        clear c2 f2 wv
        have E10 : Hid (EnAt w10 B Y) := P8.out.keep k10.out (by have := hBl.out; have := HQ.out; omega)
        have Z10 : Hid (EnAt w10 w.heap.size (en0 ⟨#[]⟩)) := Z8.out.keep k10.out (by have := HQ.out; omega)
        have N10 : Hid (GRd w10 (gad g) g.2.1 g.2.2 (inOrdK gs) ∧ GB w10 w.heap.size g) :=
          ⟨N8.out.1.keep k10.out (fun ad e => by have := (N8.out.2 ad.block (gad_some e)).1; have := HQ.out; omega), N8.out.2.keep k10.out (fun b e => by have := (N8.out.2 b e).1; have := HQ.out; omega)⟩
        have K10 : Hid (Keep (fun j => j = q ∨ j = mb) w w10) := (Keep.ofBelow B8.out).trans k10.out
        have cC := copiedG_any Y (by rw [HYc.out.1]; exact Hxc.out) (by rw [HYc.out.2.1]; have := Hnm.out; omega) (inOrdK gs) w10 (by rw [HYc.out.2.2]; exact N10.out.1) (by rw [HYc.out.2.2]; have := hg8.out; omega) Hg64.out
        rw [HVY.out] at cC
        go_wp2_with (first
          | (refine wp_load_en rfl (.tmp 9) rfl B rfl Y E10.out ?_; rw [HVY.out])
          | (go_at_call 81; refine cC.mono ?_; clear cC; rintro e w11 ⟨g', rfl, hg11, hgb11, hb11⟩; have Z11 := Z10.out.carry hb11)
          | (refine wp_store_en rfl (.tmp 8) (.tmp 36) rfl w.heap.size rfl { Y with g := g' } rfl _ Z11 ?_))
        have e1 := Z11.set { Y with g := g' }
        have kr := rowK w11 w.heap.size (enc { Y with g := g' })
        have hs10 := K10.out.size
        have hs11 := hb11.size
        have hz10 := Z10.out.lt
        have kk : Keep (fun j => j = q ∨ j = mb) w (w11.setRow w.heap.size (enc { Y with g := g' })) := by
          have k0 : Keep (fun j => j = q ∨ j = mb) w w11 := K10.out.trans (Keep.ofBelow hb11)
          refine ⟨k0.os, k0.tape, k0.output, by have := k0.size; simpa using this, fun j hj hs => ?_⟩
          rw [setRow_other w11 w.heap.size j _ (by omega)]
          exact k0.block j hj hs
        have gw : ∀ b, g.1 = some b → b ≠ w.heap.size := fun b e => by have := (gne.out b e).2; omega
        have gw' : ∀ b, g'.1 = some b → b ≠ w.heap.size := fun b e => by have := (hgb11 b e).1; omega
        refine bodyPost_ret (v := env { Y with g := g' }) ?_ rfl (Or.inr ⟨HP.out, g, g', ?_, ?_, ?_, ?_, hg8.out, ?_, ?_, kk⟩)
        · exact res_en rfl _ _ w.heap.size _ rfl e1
        · rw [HPN.out, ← HY.out]
        · rw [HPN.out, HY.out]; exact (h10.out.below hb11).keep kr (by have := HQ.out; omega) (by have := HQ.out; omega)
        · exact (N10.out.1.below hb11).keep kr (fun ad e => gw ad.block (gad_some e))
        · exact (N10.out.2.below hb11).keep kr gw
        · exact hg11.keep kr (fun ad e => gw' ad.block (gad_some e))
        · exact (hgb11.keep kr gw').mono (by omega)
    · have HC2' : Hid (∀ w', Below w.heap.size w w' → Calls Tryz.prog 90 #[.slice a n cc] w' fun e w'' => e = .panicked (gaveR (groupsE gs)) ∧ Below w'.heap.size w' w'') := fun w' hb => (HC2.out w' hb).mono (fun e w'' h => by
        rcases h.1 with ⟨h3, _⟩ | ⟨_, h3⟩
        · exact absurd h3 h2
        · exact ⟨h3, h.2⟩)
      have HP : Hid (putE R c nm gs = groupsE gs) := by show _ = _; unfold putE; rw [if_neg (fun e => e h1), if_pos h2]
      have cA := HC1'.out _ HZ.out.2
      clear HC1 HC2 hG hc hn hgn hgs h1
      go_enter Tryz.func52, Tryz.ntmps52
      go_wp2_with (first
        | (go_at_call 89; refine cA.mono ?_; clear cA; rintro e w2 ⟨rfl, hb2⟩; have B2 := HZ.out.2.trans (hb2.mono (HZ.out.2.size)); have cB := HC2'.out w2 B2)
        | (go_at_call 90; refine cB.mono ?_; clear cB; rintro e w3 ⟨rfl, hb3⟩))
      have B3 := B2.trans (hb3.mono B2.size)
      exact ⟨rfl, Or.inl (by rw [HP.out]; exact ⟨h2, rfl, HR.out.below B3, Keep.ofBelow B3⟩)⟩
  · have HC1' : Hid (∀ w', Below w.heap.size w w' → Calls Tryz.prog 89 #[.string nm] w' fun e w'' => e = .panicked (gaveR (textE nm)) ∧ Below w'.heap.size w' w'') := fun w' hb => (HC1.out w' hb).mono (fun e w'' h => by
      rcases h.1 with ⟨h3, _⟩ | ⟨_, h3⟩
      · exact absurd h3 h1
      · exact ⟨h3, h.2⟩)
    have HP : Hid (putE R c nm gs = textE nm) := by show _ = _; unfold putE; rw [if_pos h1]
    have cA := HC1'.out _ HZ.out.2
    clear HC1 HC2 hG hc hn hgn hgs
    go_enter Tryz.func52, Tryz.ntmps52
    go_wp2_with (first
      | (go_at_call 89; refine cA.mono ?_; clear cA; rintro e w2 ⟨rfl, hb2⟩))
    have B2 := HZ.out.2.trans (hb2.mono (HZ.out.2.size))
    exact ⟨rfl, Or.inl (by rw [HP.out]; exact ⟨h1, rfl, HR.out.below B2, Keep.ofBelow B2⟩)⟩
end Go.Proofs.YtppdopcghnfapaaGreatDoor

/- roster: Get; New. -/
set_option maxRecDepth 100000
namespace Go.Proofs.YtppdopcghnfapaaGreatDoor
open Go.RowKit Go.Joins

set_option maxHeartbeats 1600000 in
theorem getC_R (b : Nat) (w : World) (q mb : Nat) (R : Ro) (h : RA w q mb R) (hG : RG R) (s : ByteArray) (hs : s.size ≤ 1000000) (hg0 : ∀ c, (ofE R c).g = (none, 0, 0) ∧ (ofE R c).nm.size ≤ 1000000) (hq : q < b) (hm : mb < b) (hT : Lib.Utf8Tabs 2 3 w) (hp : (prepB s).size ≤ 1000000) (x0 : w.heap[b]? = some (.cells #[.pointer (some ⟨q, 0, none⟩)] 23 (0, 0))) (x1 : w.heap[b + 1]? = some (.cells #[.string s] 9 (0, 0))) :
    Calls Tryz.prog 71 #[.pointer (some ⟨b, 0, none⟩), .pointer (some ⟨b + 1, 0, none⟩)] w fun e w' => GaveV (getS R s).2.1 (.agg (enc (getS R s).1)) e ∧ RA w' q mb (getS R s).2.2 ∧ Keep (fun j => j = q ∨ j = mb) w w' := by
  have hbs : b + 1 < w.heap.size := (Array.getElem?_eq_some_iff.1 x1).1
  have cL := rlocal_any s w.drew (by omega) (tabs_bel hT (Below.refl _ _).drew)
  have cl2 := fun w1 (hb : Below w.heap.size w w1) => cL
  unfold getS
  generalize hW : (w.alloc (.cells (enc (en0 ⟨#[]⟩)) 51)).drew = W
  have hbW : Below w.heap.size w W := by rw [← hW]; exact (below1 _ _).drew
  have hz : W.heap[w.heap.size]? = some (.cells (enc (en0 ⟨#[]⟩)) 51 (0, 0)) := by rw [← hW]; exact push_at _ _ rfl
  have HW : Hid ((w.alloc (.cells (enc (en0 ⟨#[]⟩)) 51)).drew = W) := hW
  have HS0 : W.heap[b]? = some (.cells #[.pointer (some ⟨q, 0, none⟩)] 23 (0, 0)) ∧ W.heap[b + 1]? = some (.cells #[.string s] 9 (0, 0)) := ⟨box_below x0 hbW, box_below x1 hbW⟩
  have cLW := rlocal_any s W (by omega) (tabs_bel hT hbW)
  have hRW := h.below hbW
  clear cL cl2 hW x0 x1 hT
  have HR : Hid (RA W q mb R ∧ Below w.heap.size w W ∧ W.heap[w.heap.size]? = some (.cells (enc (en0 ⟨#[]⟩)) 51 (0, 0)) ∧ b + 1 < w.heap.size) := ⟨hRW, hbW, hz, hbs⟩
  clear h hRW hbW hz hbs
  unfold prepE prepB at *
  generalize Nm.localN s.data.toList = p at *
  obtain ⟨l, n⟩ := p
  by_cases h0 : n = 0
  · subst h0
    rw [if_pos rfl]
    have cl : Calls Tryz.prog 53 #[.string s] W fun e w' => e = .returned (.string ⟨l.toArray⟩) ∧ Below W.heap.size W w' := cLW.mono (fun e w' hh => ⟨hh.1.elim (fun k => k.2) (fun k => absurd rfl k.1), hh.2⟩)
    clear cLW
    dsimp only at hp ⊢
    generalize (⟨l.toArray⟩ : ByteArray) = c at *
    have cA : Hid (∀ w1, RA w1 q mb R → Calls Tryz.prog 72 #[.pointer (some ⟨q, 0, none⟩), .string c] w1 fun e w' => GaveV (getP R c).2.1 (.agg (enc (getP R c).1)) e ∧ RA w' q mb (getP R c).2.2 ∧ Keep (fun j => j = q ∨ j = mb) w1 w') := fun w1 hr => get_any w1 q mb R hr hG c hp hg0
    generalize getP R c = r at cA ⊢
    obtain ⟨v, en, R'⟩ := r
    dsimp only at cA ⊢
    go_enter Tryz.func71, Tryz.ntmps71
    go_upto_region 1 with fail
    refine wp_region_lx (fun w' => w'.heap[b]? = some (.cells #[.pointer (some ⟨q, 0, none⟩)] 23 (0, 0)) ∧ w'.heap[b + 1]? = some (.cells #[.string s] 9 (0, 0))) [] 5 (by kernel_rfl) (by kernel_rfl) ?_
    rw [show (w.alloc (.cells #[.string ⟨#[]⟩, .bool false, .string ⟨#[]⟩, .slice none 0 0, .int .i64 0, .int .u64 0, .int .i64 0, .int .u64 0] 51)).drew = W from HW.out]
    refine lx_r 0 (.pointer (some ⟨q, 0, none⟩)) HS0 ?_ (hv := fun w' hS => by have p := cell_one hS.1; first | (go_simp; rfl) | go_simp); simp only [lxa, lxb, lxc]
    refine lx_r 1 (.string s) HS0 ?_ (hv := fun w' hS => by have p := cell_one hS.2; first | (go_simp; rfl) | go_simp); simp only [lxa, lxb, lxc]
    refine lx_one 2 (by kernel_rfl) (stepT_call 53 ?c2 rfl rfl rfl ?d2 ?_)
    case d2 => first | (go_simp; rfl) | go_simp
    refine cl.mono ?_
    rintro e w1 ⟨rfl, hb1⟩
    have HS1 : w1.heap[b]? = some (.cells #[.pointer (some ⟨q, 0, none⟩)] 23 (0, 0)) ∧ w1.heap[b + 1]? = some (.cells #[.string s] 9 (0, 0)) := ⟨box_below HS0.1 hb1, box_below HS0.2 hb1⟩
    refine ⟨_, rfl, fun _ => HS1, ?_⟩
    simp only [lxa, lxb, lxc]
    have hR1 := HR.out.1.below hb1
    have hz1 := box_below HR.out.2.2.1 hb1
    have k1 : Keep (fun j => j = q ∨ j = mb) w w1 := (Keep.ofBelow HR.out.2.1).trans (Keep.ofBelow hb1)
    have hbs := HR.out.2.2.2
    by_cases hen : en = 0
    · subst hen
      refine lx_one 3 (by kernel_rfl) (stepT_call 72 ?c4 rfl rfl rfl ?d4 ?_)
      case d4 => first | (go_simp; rfl) | go_simp
      refine (cA.out w1 hR1).mono ?_
      rintro e w2 ⟨hg, hr2, k2⟩
      have he := hg.elim (fun k => k.2) (fun k => absurd rfl k.1)
      subst he
      have HS2 : w2.heap[b]? = some (.cells #[.pointer (some ⟨q, 0, none⟩)] 23 (0, 0)) ∧ w2.heap[b + 1]? = some (.cells #[.string s] 9 (0, 0)) := ⟨box_keep HS1.1 k2 (by omega), box_keep HS1.2 k2 (by omega)⟩
      refine ⟨_, rfl, fun _ => HS2, ?_⟩
      simp only [lxa, lxb, lxc]
      have hz2 := box_keep hz1 k2 (by omega)
      have k3 := rowK w2 w.heap.size (enc v)
      have HS3 : (w2.setRow w.heap.size (enc v)).heap[b]? = some (.cells #[.pointer (some ⟨q, 0, none⟩)] 23 (0, 0)) ∧ (w2.setRow w.heap.size (enc v)).heap[b + 1]? = some (.cells #[.string s] 9 (0, 0)) := ⟨box_keep HS2.1 k3 (by omega), box_keep HS2.2 k3 (by omega)⟩
      refine lx_one 4 (by kernel_rfl) (stepT_store (w' := w2.setRow w.heap.size (enc v)) rfl rfl rfl ?d5 (fun _ => HS3) ?_)
      case d5 => exact exec_store_row 51 (.tmp 2) (.tmp 6) rfl w.heap.size (enc v) _ rfl rfl hz2 (by rw [infoEntry]; rfl) (by rfl) (enc_one _)
      refine lx_nil (by kernel_rfl) ?_
      have a1 : RA (w2.setRow w.heap.size (enc v)) q mb R' := hr2.keep k3 (by omega) (by omega)
      have a2 := setRow_heap w2 w.heap.size _ (enc v) 51 (0, 0) hz2
      have a3 : Keep (fun j => j = q ∨ j = mb) w (w2.setRow w.heap.size (enc v)) := (k1.trans k2).andThen k3 (fun i h1 h2 => by omega)
      have hld := run_loadVar_row _ w.heap.size 51 51 _ (0, 0) _ a2 Tryz.underlying51 rfl (by rw [infoEntry]; rfl)
      go_wp2
      first | exact bodyPost_ret (res_row rfl _ _ _ _ rfl hld) rfl ⟨gv_ok rfl, a1, a3⟩ | exact bodyPost_end (res_row rfl _ _ _ _ rfl hld) rfl ⟨gv_ok rfl, a1, a3⟩
    · refine lx_one 3 (by kernel_rfl) (stepT_callP 72 ?c4 rfl rfl rfl ?d4 ?_)
      case d4 => first | (go_simp; rfl) | go_simp
      refine (cA.out w1 hR1).mono ?_
      rintro e w2 ⟨hg, hr2, k2⟩
      have he := hg.elim (fun k => absurd k.1 hen) (fun k => k.2)
      subst he
      exact Or.inr ⟨_, rfl, rfl, gv_no hen rfl, hr2, k1.trans k2⟩
  · rw [if_neg h0]
    have cl : Calls Tryz.prog 53 #[.string s] W fun e w' => e = .panicked (gaveR n) ∧ Below W.heap.size W w' := cLW.mono (fun e w' hh => ⟨hh.1.elim (fun k => absurd k.1 h0) (fun k => k.2), hh.2⟩)
    clear cLW
    go_enter Tryz.func71, Tryz.ntmps71
    go_upto_region 1 with fail
    refine wp_region_lx (fun w' => w'.heap[b]? = some (.cells #[.pointer (some ⟨q, 0, none⟩)] 23 (0, 0)) ∧ w'.heap[b + 1]? = some (.cells #[.string s] 9 (0, 0))) [] 5 (by kernel_rfl) (by kernel_rfl) ?_
    rw [show (w.alloc (.cells #[.string ⟨#[]⟩, .bool false, .string ⟨#[]⟩, .slice none 0 0, .int .i64 0, .int .u64 0, .int .i64 0, .int .u64 0] 51)).drew = W from HW.out]
    refine lx_r 0 (.pointer (some ⟨q, 0, none⟩)) HS0 ?_ (hv := fun w' hS => by have p := cell_one hS.1; first | (go_simp; rfl) | go_simp); simp only [lxa, lxb, lxc]
    refine lx_r 1 (.string s) HS0 ?_ (hv := fun w' hS => by have p := cell_one hS.2; first | (go_simp; rfl) | go_simp); simp only [lxa, lxb, lxc]
    refine lx_one 2 (by kernel_rfl) (stepT_callP 53 ?e2 rfl rfl rfl ?f2 ?_)
    case f2 => first | (go_simp; rfl) | go_simp
    refine cl.mono ?_
    rintro e w1 ⟨rfl, hb1⟩
    exact Or.inr ⟨_, rfl, rfl, gv_no h0 rfl, HR.out.1.below hb1, (Keep.ofBelow HR.out.2.1).trans (Keep.ofBelow hb1)⟩

theorem getP_no (R : Ro) (c : ByteArray) (h : (getP R c).2.1 ≠ 0) : (getP R c).1 = en0 ⟨#[]⟩ := by
  unfold getP at h ⊢
  split
  · rename_i h1
    rw [if_pos h1] at h
    exact absurd rfl h
  · rfl
theorem getS_no (R : Ro) (s : ByteArray) (h : (getS R s).2.1 ≠ 0) : (getS R s).1 = en0 ⟨#[]⟩ := by
  unfold getS at h ⊢
  split
  · rename_i h1
    rw [if_pos h1] at h
    exact getP_no R _ h
  · rfl
theorem getS_R (R : Ro) (s : ByteArray) : (getS R s).2.2 = R := by unfold getS getP; split <;> (try split) <;> rfl
theorem attGetR (b : Nat) (w : World) (q mb : Nat) (R : Ro) (h : RA w q mb R) (hG : RG R) (s : ByteArray) (hs : s.size ≤ 1000000) (hg0 : ∀ c, (ofE R c).g = (none, 0, 0) ∧ (ofE R c).nm.size ≤ 1000000) (hq : q < b) (hm : mb < b) (hT : Lib.Utf8Tabs 2 3 w) (hp : (prepB s).size ≤ 1000000) (x0 : w.heap[b]? = some (.cells #[.pointer (some ⟨q, 0, none⟩)] 23 (0, 0))) (x1 : w.heap[b + 1]? = some (.cells #[.string s] 9 (0, 0))) :
    Calls Tryz.prog 50 #[.func (.func 71) #[] #[.pointer (some ⟨b, 0, none⟩), .pointer (some ⟨b + 1, 0, none⟩)]] w fun e w' => e = .returned (.tuple #[.agg (enc (getS R s).1), .int .i64 (getS R s).2.1]) ∧ RA w' q mb R ∧ Keep (fun j => j = q ∨ j = mb) w w' := by
  have hbW := below2 w (.cells (enc (en0 ⟨#[]⟩)) 51) (.cells #[.int .i64 0] 24)
  have hbs : b < w.heap.size := (Array.getElem?_eq_some_iff.1 x0).1
  have hno := getS_no R s
  have hRR := getS_R R s
  have hc := getC_R b _ q mb R (h.below hbW) hG s hs hg0 hq hm (tabs_bel hT hbW) hp (box_below x0 hbW) (box_below x1 hbW)
  generalize getS R s = r at hc hno hRR ⊢
  obtain ⟨x, en, R'⟩ := r
  dsimp only at hRR
  subst hRR
  refine (attemptE 71 _ en x (fun j => j = q ∨ j = mb) (fun w' => RA w' q mb R') w (fun args w => by kernel_rfl) (fun i hi => by omega) hc).mono ?_
  rintro e w' ⟨rfl, w1, hr, k1, k2⟩
  refine ⟨?_, hr.keep k2 (by omega) (by omega), k1.andThen k2 (fun i h1 h2 => by omega)⟩
  by_cases h0 : en = 0
  · rw [if_pos h0]
  · rw [if_neg h0]
    have e1 : x = _ := hno h0
    rw [e1]
set_option maxHeartbeats 800000 in
theorem Get_R (w : World) (q mb : Nat) (R : Ro) (h : RA w q mb R) (hG : RG R) (s : ByteArray) (hs : s.size ≤ 1000000) (hg0 : ∀ c, (ofE R c).g = (none, 0, 0) ∧ (ofE R c).nm.size ≤ 1000000) (hT : Lib.Utf8Tabs 2 3 w) (hp : (prepB s).size ≤ 1000000) :
    Calls Tryz.prog 30 #[.pointer (some ⟨q, 0, none⟩), .string s] w fun e w' => e = .returned (.tuple #[env (getS R s).1, .bool ((((getS R s).2.1 : Nat) : Int) == 0)]) ∧ RA w' q mb R ∧ Keep (fun j => j = q ∨ j = mb) w w' := by
  have hmf : ∀ (fn : Fn) (first cap : Array Value) (w : World), (Instr.makeFunc fn first cap).run Tryz.prog w = .ok (.func fn first cap) w := fun _ _ _ _ => rfl
  have hb : Below w.heap.size w (((w.alloc (.cells #[.pointer (some ⟨q, 0, none⟩)] 23)).alloc (.cells #[.string s] 9)).alloc (.cells #[.string ⟨#[]⟩, .bool false, .string ⟨#[]⟩, .slice none 0 0, .int .i64 0, .int .u64 0, .int .i64 0, .int .u64 0] 51)) := ((((Below.refl _ _).alloc (Nat.le_refl _) _).alloc (by simp) _).alloc (by simp; omega) _)
  have hz : EnAt (((w.alloc (.cells #[.pointer (some ⟨q, 0, none⟩)] 23)).alloc (.cells #[.string s] 9)).alloc (.cells #[.string ⟨#[]⟩, .bool false, .string ⟨#[]⟩, .slice none 0 0, .int .i64 0, .int .u64 0, .int .i64 0, .int .u64 0] 51)) (w.heap.size + 2) (en0 ⟨#[]⟩) := push_at _ _ (by simp)
  have hq := h.lt
  have hm := h.map.lt
  have hc := attGetR w.heap.size _ q mb R (h.below hb) hG s hs hg0 hq hm (tabs_bel hT hb) hp (push_old (push_old (push_at _ _ rfl))) (push_old (push_at _ _ (by simp)))
  generalize getS R s = r at hc ⊢
  obtain ⟨x, en, R'⟩ := r
  dsimp only at hc ⊢
  have HB : Hid (Below w.heap.size w _ ∧ EnAt _ _ _) := ⟨hb, hz⟩
  have HL : Hid (q < w.heap.size ∧ mb < w.heap.size) := ⟨hq, hm⟩
  clear h hT hb hq hm hp hz hg0 R'
  obtain ⟨V, HV⟩ : ∃ V, Hid (env x = V) := ⟨_, rfl⟩
  rw [HV.out]
  unfold enc gsv at hc
  go_enter Tryz.func30, Tryz.ntmps30
  go_upto_region 2 with (first
    | (go_at_call 50; refine hc.mono ?_; clear hc; rintro e w4 ⟨rfl, hr4, k4⟩; have z4 := box_keep HB.out.2 k4 (by have := HL.out; omega)))
  have A1 : Hid (EnAt (w4.alloc (.cells (enc x) 51)) w4.heap.size x ∧ EnAt (w4.alloc (.cells (enc x) 51)) (w.heap.size + 2) (en0 ⟨#[]⟩) ∧ RA (w4.alloc (.cells (enc x) 51)) q mb R ∧ Keep (fun j => j = q ∨ j = mb) w (w4.alloc (.cells (enc x) 51))) :=
    ⟨EnAt.made _ _, EnAt.carry z4 (below1 _ _), hr4.below (below1 _ _), ((Keep.ofBelow HB.out.1).trans k4).trans (Keep.ofBelow (below1 _ _))⟩
  unfold enc gsv at A1
  clear hr4 k4 z4
  obtain ⟨B, HBq⟩ : ∃ B, Hid (w4.heap.size = B) := ⟨_, rfl⟩
  rw [HBq.out] at A1 ⊢
  generalize w4.alloc _ = W at A1 ⊢
  go_wp2_with (first
    | (refine wp_load_en rfl (.tmp 6) rfl B rfl x A1.out.1 ?_)
    | (refine wp_store_en rfl (.tmp 4) (.tmp 13) rfl (w.heap.size + 2) rfl x rfl _ A1.out.2.1 ?_))
  have k5 := rowK W (w.heap.size + 2) (enc x)
  have hld := (A1.out.2.1.set x).load
  rw [HV.out] at hld
  refine bodyPost_ret (resCT rfl _ _ _ _ _ rfl rfl hld) rfl ⟨rfl, A1.out.2.2.1.keep k5 (by have := HL.out; omega) (by have := HL.out; omega), A1.out.2.2.2.andThen k5 (fun i h1 h2 => by omega)⟩

/-- A new roster. -/
def newR (it ak : Int) : Ro := ⟨it, ak, 0, 0, fun _ => none, [], 0⟩
theorem newR_G (it ak : Int) : RG (newR it ak) := ⟨⟨Int.le_refl _, show (0 : Int) < 9223372036854775807 by decide⟩, show (0 : Nat) < 900000 by decide, ⟨Int.le_refl _, show (0 : Int) < 1000000 by decide⟩, ⟨Int.le_refl _, show (0 : Int) < 9223372036854775807 by decide⟩, fun _ _ h => by cases h⟩
theorem mm_run (w : World) : (Instr.makeMap 90 none).run Tryz.prog w = .ok (.map (some w.heap.size)) (w.alloc (.map #[] 0)) := rfl
set_option maxHeartbeats 800000 in
theorem empty_ok (it ak : Int) (h1 : bnd it = true) (h2 : bnd ak = true) (w : World) :
    Calls Tryz.prog 29 #[.int .i64 it, .int .i64 ak] w fun e w' => e = .returned (.pointer (some ⟨w.heap.size + 1, 0, none⟩)) ∧ RA w' (w.heap.size + 1) w.heap.size (newR it ak) ∧ Below w.heap.size w w' := by
  have c1 := fun w => bound_any it w
  have c2 := fun w => bound_any ak w
  have cD := fun w => demR_ok 1 w
  rw [h1] at c1
  rw [h2] at c2
  clear h1 h2
  have hm := mm_run w
  have t1 : True := trivial
  go_enter Tryz.func29, Tryz.ntmps29
  go_wp2_with (first
    | (clear t1; go_at_call 70; refine (c1 _).mono ?_; clear c1; rintro e w1 ⟨rfl, hw1⟩; replace hw1 := hw1.symm; subst hw1)
    | (go_at_call 70; refine (c2 _).mono ?_; clear c2; rintro e w2 ⟨rfl, hw2⟩; replace hw2 := hw2.symm; subst hw2)
    | (go_at_call 69; refine (cD _).mono ?_; clear cD; rintro e w3 ⟨rfl, hw3⟩; replace hw3 := hw3.symm; subst hw3))
  go_ret
  refine ⟨by simp, ⟨?_, ?_, List.nodup_nil, fun s => by simp [newR]⟩, below2 _ _ _⟩
  · exact push_at _ _ (by simp)
  · exact (EMap.made w).keep (S := fun _ => False) (Keep.ofBelow (below1 _ _)) (fun h => h)
theorem newC_ok (b : Nat) (it ak : Int) (h1 : bnd it = true) (h2 : bnd ak = true) (w : World) (x0 : w.heap[b]? = some (.cells #[.int .i64 it] 3 (0, 0))) (x1 : w.heap[b + 1]? = some (.cells #[.int .i64 ak] 3 (0, 0))) :
    Calls Tryz.prog 28 #[.pointer (some ⟨b, 0, none⟩), .pointer (some ⟨b + 1, 0, none⟩)] w fun e w' => e = .returned (.pointer (some ⟨w.heap.size + 1, 0, none⟩)) ∧ RA w' (w.heap.size + 1) w.heap.size (newR it ak) ∧ Below w.heap.size w w' := by
  have cE := empty_ok it ak h1 h2 w
  have p0 := cell_one x0
  have p1 := cell_one x1
  clear x0 x1 h1 h2
  go_enter Tryz.func28, Tryz.ntmps28
  go_wp2_with (first
    | (go_at_call 29; refine cE.mono ?_; clear cE; rintro e w1 ⟨rfl, hr, hb⟩))
  go_ret
  exact ⟨rfl, hr, hb⟩
set_option maxHeartbeats 800000 in
theorem New_ok (it ak : Int) (h1 : bnd it = true) (h2 : bnd ak = true) (w : World) :
    Calls Tryz.prog 7 #[.int .i64 it, .int .i64 ak] w fun e w' => ∃ q mb, e = .returned (.tuple #[.pointer (some ⟨q, 0, none⟩), .int .i64 0]) ∧ RA w' q mb (newR it ak) ∧ w.heap.size ≤ q ∧ w.heap.size ≤ mb ∧ Below w.heap.size w w' := by
  have hmf : ∀ (fn : Fn) (first cap : Array Value) (w : World), (Instr.makeFunc fn first cap).run Tryz.prog w = .ok (.func fn first cap) w := fun _ _ _ _ => rfl
  have hb2 := below2 w (.cells #[.int .i64 it] 3) (.cells #[.int .i64 ak] 3)
  have hs2 : ((w.alloc (.cells #[.int .i64 it] 3)).alloc (.cells #[.int .i64 ak] 3)).heap.size = w.heap.size + 2 := by simp
  have hs3 : (((w.alloc (.cells #[.int .i64 it] 3)).alloc (.cells #[.int .i64 ak] 3)).alloc (.cells #[.int .i64 0] 24)).heap.size = w.heap.size + 3 := by simp
  have hc := newC_ok w.heap.size it ak h1 h2 (((w.alloc (.cells #[.int .i64 it] 3)).alloc (.cells #[.int .i64 ak] 3)).alloc (.cells #[.int .i64 0] 24)) (push_old (push_old (push_at _ _ rfl))) (push_old (push_at _ _ (by simp)))
  rw [hs3] at hc
  have hat : Calls Tryz.prog 27 #[.func (.func 28) #[] #[.pointer (some ⟨w.heap.size, 0, none⟩), .pointer (some ⟨w.heap.size + 1, 0, none⟩)]] ((w.alloc (.cells #[.int .i64 it] 3)).alloc (.cells #[.int .i64 ak] 3)) fun e w' => e = .returned (.tuple #[.pointer (some ⟨w.heap.size + 4, 0, none⟩), .int .i64 0]) ∧ RA w' (w.heap.size + 4) (w.heap.size + 3) (newR it ak) ∧ Below w.heap.size w w' := by
    refine (attemptR 28 _ 0 (w.heap.size + 4) (fun w' => RA w' (w.heap.size + 4) (w.heap.size + 3) (newR it ak)) _ (fun args w => by kernel_rfl) (hc.mono ?_)).mono ?_
    · rintro e w' ⟨rfl, hr, hb⟩
      exact ⟨gv_ok rfl, hr, by rw [hs2]; exact hb⟩
    · rintro e w' ⟨rfl, w1, hr, hb, k⟩
      rw [hs2] at hb k
      refine ⟨rfl, hr.keep k (by omega) (by omega), ?_⟩
      exact (hb2.trans (hb.mono (by omega))).trans (k.below (by have := hb2.size; have := hb.size; omega) (fun i hi => by omega))
  have HB : Hid (Below w.heap.size w _) := hb2
  clear hc hs2 hs3 hb2 h1 h2
  go_enter Tryz.func7, Tryz.ntmps7
  go_wp2_with (first
    | (go_at_call 27; refine hat.mono ?_; clear hat; rintro e w1 ⟨rfl, hr, hb⟩))
  go_ret2
  exact ⟨w.heap.size + 4, w.heap.size + 3, rfl, hr, by omega, by omega, hb⟩
end Go.Proofs.YtppdopcghnfapaaGreatDoor

/- roster: Drop. -/
set_option maxRecDepth 100000
namespace Go.Proofs.YtppdopcghnfapaaGreatDoor
open Go.RowKit Go.Joins

set_option maxHeartbeats 1600000 in
theorem dropC_R (b : Nat) (w : World) (q mb : Nat) (R : Ro) (h : RA w q mb R) (hG : RG R) (s : ByteArray) (hs : s.size ≤ 1000000)  (hq : q < b) (hm : mb < b) (hT : Lib.Utf8Tabs 2 3 w) (hp : (prepB s).size ≤ 1000000) (x0 : w.heap[b]? = some (.cells #[.pointer (some ⟨q, 0, none⟩)] 23 (0, 0))) (x1 : w.heap[b + 1]? = some (.cells #[.string s] 9 (0, 0))) :
    Calls Tryz.prog 54 #[.pointer (some ⟨b, 0, none⟩), .pointer (some ⟨b + 1, 0, none⟩)] w fun e w' => GaveV (dropS R s).2.1 (.agg (enc (dropS R s).1)) e ∧ RA w' q mb (dropS R s).2.2 ∧ Keep (fun j => j = q ∨ j = mb) w w' := by
  have hbs : b + 1 < w.heap.size := (Array.getElem?_eq_some_iff.1 x1).1
  have cL := rlocal_any s w.drew (by omega) (tabs_bel hT (Below.refl _ _).drew)
  have cl2 := fun w1 (hb : Below w.heap.size w w1) => cL
  unfold dropS
  generalize hW : (w.alloc (.cells (enc (en0 ⟨#[]⟩)) 51)).drew = W
  have hbW : Below w.heap.size w W := by rw [← hW]; exact (below1 _ _).drew
  have hz : W.heap[w.heap.size]? = some (.cells (enc (en0 ⟨#[]⟩)) 51 (0, 0)) := by rw [← hW]; exact push_at _ _ rfl
  have HW : Hid ((w.alloc (.cells (enc (en0 ⟨#[]⟩)) 51)).drew = W) := hW
  have HS0 : W.heap[b]? = some (.cells #[.pointer (some ⟨q, 0, none⟩)] 23 (0, 0)) ∧ W.heap[b + 1]? = some (.cells #[.string s] 9 (0, 0)) := ⟨box_below x0 hbW, box_below x1 hbW⟩
  have cLW := rlocal_any s W (by omega) (tabs_bel hT hbW)
  have hRW := h.below hbW
  clear cL cl2 hW x0 x1 hT
  have HR : Hid (RA W q mb R ∧ Below w.heap.size w W ∧ W.heap[w.heap.size]? = some (.cells (enc (en0 ⟨#[]⟩)) 51 (0, 0)) ∧ b + 1 < w.heap.size) := ⟨hRW, hbW, hz, hbs⟩
  clear h hRW hbW hz hbs
  unfold prepE prepB at *
  generalize Nm.localN s.data.toList = p at *
  obtain ⟨l, n⟩ := p
  by_cases h0 : n = 0
  · subst h0
    rw [if_pos rfl]
    have cl : Calls Tryz.prog 53 #[.string s] W fun e w' => e = .returned (.string ⟨l.toArray⟩) ∧ Below W.heap.size W w' := cLW.mono (fun e w' hh => ⟨hh.1.elim (fun k => k.2) (fun k => absurd rfl k.1), hh.2⟩)
    clear cLW
    dsimp only at hp ⊢
    generalize (⟨l.toArray⟩ : ByteArray) = c at *
    have cA : Hid (∀ w1, RA w1 q mb R → Calls Tryz.prog 55 #[.pointer (some ⟨q, 0, none⟩), .string c] w1 fun e w' => GaveV (dropP R c).2.1 (.agg (enc (dropP R c).1)) e ∧ RA w' q mb (dropP R c).2.2 ∧ Keep (fun j => j = q ∨ j = mb) w1 w') := fun w1 hr => drop_any w1 q mb R hr hG c hp
    generalize dropP R c = r at cA ⊢
    obtain ⟨v, en, R'⟩ := r
    dsimp only at cA ⊢
    go_enter Tryz.func54, Tryz.ntmps54
    go_upto_region 1 with fail
    refine wp_region_lx (fun w' => w'.heap[b]? = some (.cells #[.pointer (some ⟨q, 0, none⟩)] 23 (0, 0)) ∧ w'.heap[b + 1]? = some (.cells #[.string s] 9 (0, 0))) [] 5 (by kernel_rfl) (by kernel_rfl) ?_
    rw [show (w.alloc (.cells #[.string ⟨#[]⟩, .bool false, .string ⟨#[]⟩, .slice none 0 0, .int .i64 0, .int .u64 0, .int .i64 0, .int .u64 0] 51)).drew = W from HW.out]
    refine lx_r 0 (.pointer (some ⟨q, 0, none⟩)) HS0 ?_ (hv := fun w' hS => by have p := cell_one hS.1; first | (go_simp; rfl) | go_simp); simp only [lxa, lxb, lxc]
    refine lx_r 1 (.string s) HS0 ?_ (hv := fun w' hS => by have p := cell_one hS.2; first | (go_simp; rfl) | go_simp); simp only [lxa, lxb, lxc]
    refine lx_one 2 (by kernel_rfl) (stepT_call 53 ?c2 rfl rfl rfl ?d2 ?_)
    case d2 => first | (go_simp; rfl) | go_simp
    refine cl.mono ?_
    rintro e w1 ⟨rfl, hb1⟩
    have HS1 : w1.heap[b]? = some (.cells #[.pointer (some ⟨q, 0, none⟩)] 23 (0, 0)) ∧ w1.heap[b + 1]? = some (.cells #[.string s] 9 (0, 0)) := ⟨box_below HS0.1 hb1, box_below HS0.2 hb1⟩
    refine ⟨_, rfl, fun _ => HS1, ?_⟩
    simp only [lxa, lxb, lxc]
    have hR1 := HR.out.1.below hb1
    have hz1 := box_below HR.out.2.2.1 hb1
    have k1 : Keep (fun j => j = q ∨ j = mb) w w1 := (Keep.ofBelow HR.out.2.1).trans (Keep.ofBelow hb1)
    have hbs := HR.out.2.2.2
    by_cases hen : en = 0
    · subst hen
      refine lx_one 3 (by kernel_rfl) (stepT_call 55 ?c4 rfl rfl rfl ?d4 ?_)
      case d4 => first | (go_simp; rfl) | go_simp
      refine (cA.out w1 hR1).mono ?_
      rintro e w2 ⟨hg, hr2, k2⟩
      have he := hg.elim (fun k => k.2) (fun k => absurd rfl k.1)
      subst he
      have HS2 : w2.heap[b]? = some (.cells #[.pointer (some ⟨q, 0, none⟩)] 23 (0, 0)) ∧ w2.heap[b + 1]? = some (.cells #[.string s] 9 (0, 0)) := ⟨box_keep HS1.1 k2 (by omega), box_keep HS1.2 k2 (by omega)⟩
      refine ⟨_, rfl, fun _ => HS2, ?_⟩
      simp only [lxa, lxb, lxc]
      have hz2 := box_keep hz1 k2 (by omega)
      have k3 := rowK w2 w.heap.size (enc v)
      have HS3 : (w2.setRow w.heap.size (enc v)).heap[b]? = some (.cells #[.pointer (some ⟨q, 0, none⟩)] 23 (0, 0)) ∧ (w2.setRow w.heap.size (enc v)).heap[b + 1]? = some (.cells #[.string s] 9 (0, 0)) := ⟨box_keep HS2.1 k3 (by omega), box_keep HS2.2 k3 (by omega)⟩
      refine lx_one 4 (by kernel_rfl) (stepT_store (w' := w2.setRow w.heap.size (enc v)) rfl rfl rfl ?d5 (fun _ => HS3) ?_)
      case d5 => exact exec_store_row 51 (.tmp 2) (.tmp 6) rfl w.heap.size (enc v) _ rfl rfl hz2 (by rw [infoEntry]; rfl) (by rfl) (enc_one _)
      refine lx_nil (by kernel_rfl) ?_
      have a1 : RA (w2.setRow w.heap.size (enc v)) q mb R' := hr2.keep k3 (by omega) (by omega)
      have a2 := setRow_heap w2 w.heap.size _ (enc v) 51 (0, 0) hz2
      have a3 : Keep (fun j => j = q ∨ j = mb) w (w2.setRow w.heap.size (enc v)) := (k1.trans k2).andThen k3 (fun i h1 h2 => by omega)
      have hld := run_loadVar_row _ w.heap.size 51 51 _ (0, 0) _ a2 Tryz.underlying51 rfl (by rw [infoEntry]; rfl)
      go_wp2
      first | exact bodyPost_ret (res_row rfl _ _ _ _ rfl hld) rfl ⟨gv_ok rfl, a1, a3⟩ | exact bodyPost_end (res_row rfl _ _ _ _ rfl hld) rfl ⟨gv_ok rfl, a1, a3⟩
    · refine lx_one 3 (by kernel_rfl) (stepT_callP 55 ?c4 rfl rfl rfl ?d4 ?_)
      case d4 => first | (go_simp; rfl) | go_simp
      refine (cA.out w1 hR1).mono ?_
      rintro e w2 ⟨hg, hr2, k2⟩
      have he := hg.elim (fun k => absurd k.1 hen) (fun k => k.2)
      subst he
      exact Or.inr ⟨_, rfl, rfl, gv_no hen rfl, hr2, k1.trans k2⟩
  · rw [if_neg h0]
    have cl : Calls Tryz.prog 53 #[.string s] W fun e w' => e = .panicked (gaveR n) ∧ Below W.heap.size W w' := cLW.mono (fun e w' hh => ⟨hh.1.elim (fun k => absurd k.1 h0) (fun k => k.2), hh.2⟩)
    clear cLW
    go_enter Tryz.func54, Tryz.ntmps54
    go_upto_region 1 with fail
    refine wp_region_lx (fun w' => w'.heap[b]? = some (.cells #[.pointer (some ⟨q, 0, none⟩)] 23 (0, 0)) ∧ w'.heap[b + 1]? = some (.cells #[.string s] 9 (0, 0))) [] 5 (by kernel_rfl) (by kernel_rfl) ?_
    rw [show (w.alloc (.cells #[.string ⟨#[]⟩, .bool false, .string ⟨#[]⟩, .slice none 0 0, .int .i64 0, .int .u64 0, .int .i64 0, .int .u64 0] 51)).drew = W from HW.out]
    refine lx_r 0 (.pointer (some ⟨q, 0, none⟩)) HS0 ?_ (hv := fun w' hS => by have p := cell_one hS.1; first | (go_simp; rfl) | go_simp); simp only [lxa, lxb, lxc]
    refine lx_r 1 (.string s) HS0 ?_ (hv := fun w' hS => by have p := cell_one hS.2; first | (go_simp; rfl) | go_simp); simp only [lxa, lxb, lxc]
    refine lx_one 2 (by kernel_rfl) (stepT_callP 53 ?e2 rfl rfl rfl ?f2 ?_)
    case f2 => first | (go_simp; rfl) | go_simp
    refine cl.mono ?_
    rintro e w1 ⟨rfl, hb1⟩
    exact Or.inr ⟨_, rfl, rfl, gv_no h0 rfl, HR.out.1.below hb1, (Keep.ofBelow HR.out.2.1).trans (Keep.ofBelow hb1)⟩

theorem dropP_no (R : Ro) (c : ByteArray) (h : (dropP R c).2.1 ≠ 0) : (dropP R c).1 = en0 ⟨#[]⟩ := by
  unfold dropP at h ⊢
  split
  · rename_i h1
    rw [if_pos h1] at h
    exact absurd rfl h
  · rfl
theorem dropS_no (R : Ro) (s : ByteArray) (h : (dropS R s).2.1 ≠ 0) : (dropS R s).1 = en0 ⟨#[]⟩ := by
  unfold dropS at h ⊢
  split
  · rename_i h1
    rw [if_pos h1] at h
    exact dropP_no R _ h
  · rfl
theorem attDropR (b : Nat) (w : World) (q mb : Nat) (R : Ro) (h : RA w q mb R) (hG : RG R) (s : ByteArray) (hs : s.size ≤ 1000000) (hq : q < b) (hm : mb < b) (hT : Lib.Utf8Tabs 2 3 w) (hp : (prepB s).size ≤ 1000000) (x0 : w.heap[b]? = some (.cells #[.pointer (some ⟨q, 0, none⟩)] 23 (0, 0))) (x1 : w.heap[b + 1]? = some (.cells #[.string s] 9 (0, 0))) :
    Calls Tryz.prog 50 #[.func (.func 54) #[] #[.pointer (some ⟨b, 0, none⟩), .pointer (some ⟨b + 1, 0, none⟩)]] w fun e w' => e = .returned (.tuple #[.agg (enc (dropS R s).1), .int .i64 (dropS R s).2.1]) ∧ RA w' q mb (dropS R s).2.2 ∧ Keep (fun j => j = q ∨ j = mb) w w' := by
  have hbW := below2 w (.cells (enc (en0 ⟨#[]⟩)) 51) (.cells #[.int .i64 0] 24)
  have hbs : b < w.heap.size := (Array.getElem?_eq_some_iff.1 x0).1
  have hno := dropS_no R s
  have hc := dropC_R b _ q mb R (h.below hbW) hG s hs hq hm (tabs_bel hT hbW) hp (box_below x0 hbW) (box_below x1 hbW)
  generalize dropS R s = r at hc hno ⊢
  obtain ⟨x, en, R'⟩ := r
  refine (attemptE 54 _ en x (fun j => j = q ∨ j = mb) (fun w' => RA w' q mb R') w (fun args w => by kernel_rfl) (fun i hi => by omega) hc).mono ?_
  rintro e w' ⟨rfl, w1, hr, k1, k2⟩
  refine ⟨?_, hr.keep k2 (by omega) (by omega), k1.andThen k2 (fun i h1 h2 => by omega)⟩
  by_cases h0 : en = 0
  · rw [if_pos h0]
  · rw [if_neg h0]
    have e1 : x = _ := hno h0
    rw [e1]
set_option maxHeartbeats 800000 in
theorem Drop_R (w : World) (q mb : Nat) (R : Ro) (h : RA w q mb R) (hG : RG R) (s : ByteArray) (hs : s.size ≤ 1000000) (hT : Lib.Utf8Tabs 2 3 w) (hp : (prepB s).size ≤ 1000000) :
    Calls Tryz.prog 21 #[.pointer (some ⟨q, 0, none⟩), .string s] w fun e w' => e = .returned (.tuple #[env (dropS R s).1, .int .i64 (dropS R s).2.1]) ∧ RA w' q mb (dropS R s).2.2 ∧ Keep (fun j => j = q ∨ j = mb) w w' := by
  have hmf : ∀ (fn : Fn) (first cap : Array Value) (w : World), (Instr.makeFunc fn first cap).run Tryz.prog w = .ok (.func fn first cap) w := fun _ _ _ _ => rfl
  have hb : Below w.heap.size w (((w.alloc (.cells #[.pointer (some ⟨q, 0, none⟩)] 23)).alloc (.cells #[.string s] 9)).alloc (.cells #[.string ⟨#[]⟩, .bool false, .string ⟨#[]⟩, .slice none 0 0, .int .i64 0, .int .u64 0, .int .i64 0, .int .u64 0] 51)) := ((((Below.refl _ _).alloc (Nat.le_refl _) _).alloc (by simp) _).alloc (by simp; omega) _)
  have hz : EnAt (((w.alloc (.cells #[.pointer (some ⟨q, 0, none⟩)] 23)).alloc (.cells #[.string s] 9)).alloc (.cells #[.string ⟨#[]⟩, .bool false, .string ⟨#[]⟩, .slice none 0 0, .int .i64 0, .int .u64 0, .int .i64 0, .int .u64 0] 51)) (w.heap.size + 2) (en0 ⟨#[]⟩) := push_at _ _ (by simp)
  have hq := h.lt
  have hm := h.map.lt
  have hc := attDropR w.heap.size _ q mb R (h.below hb) hG s hs hq hm (tabs_bel hT hb) hp (push_old (push_old (push_at _ _ rfl))) (push_old (push_at _ _ (by simp)))
  generalize dropS R s = r at hc ⊢
  obtain ⟨x, en, R'⟩ := r
  dsimp only at hc ⊢
  have HB : Hid (Below w.heap.size w _ ∧ EnAt _ _ _) := ⟨hb, hz⟩
  have HL : Hid (q < w.heap.size ∧ mb < w.heap.size) := ⟨hq, hm⟩
  clear h hT hb hq hm hp hz
  obtain ⟨V, HV⟩ : ∃ V, Hid (env x = V) := ⟨_, rfl⟩
  rw [HV.out]
  rw [show Value.agg (enc x) = V from HV.out] at hc
  go_enter Tryz.func21, Tryz.ntmps21
  go_wp2_with (first
    | (go_at_call 50; refine hc.mono ?_; clear hc; rintro e w4 ⟨rfl, hr4, k4⟩; have z4 : EnAt w4 (w.heap.size + 2) (en0 ⟨#[]⟩) := box_keep HB.out.2 k4 (by have := HL.out; omega))
    | (refine wp_store_en rfl (.tmp 4) (.tmp 8) rfl (w.heap.size + 2) rfl x HV.out.symm _ z4 ?_))
  have k5 := rowK w4 (w.heap.size + 2) (enc x)
  have hld := (z4.set x).load
  rw [HV.out] at hld
  refine bodyPost_ret (resCT rfl _ _ _ _ _ rfl rfl hld) rfl ⟨rfl, hr4.keep k5 (by have := HL.out; omega) (by have := HL.out; omega), ((Keep.ofBelow HB.out.1).trans k4).andThen k5 (fun i h1 h2 => by omega)⟩
end Go.Proofs.YtppdopcghnfapaaGreatDoor

/- roster: Put. -/
set_option maxRecDepth 100000
namespace Go.Proofs.YtppdopcghnfapaaGreatDoor
open Go.RowKit Go.Joins

/-- Why Put gives up. -/
def putF (R : Ro) (s nm : ByteArray) (gs : List ByteArray) : Nat := if prepE s = 0 then putE R (prepB s) nm gs else prepE s
/-- What Put leaves where it doesn't; B: where new memory begins. -/
def PutOk (B q mb : Nat) (R : Ro) (c nm : ByteArray) (gs : List ByteArray) (x : En) (w' : World) : Prop :=
  ∃ g g' : Gr, x = putN R c nm g' ∧ RA w' q mb { layR R (putN R c nm g) with ver := R.ver + 1 } ∧ GRd w' (gad g) g.2.1 g.2.2 (inOrdK gs) ∧ GB w' B g ∧ g.2.1 ≤ 8 ∧ GRd w' (gad g') g'.2.1 g'.2.2 (inOrdK gs) ∧ GB w' B g'
theorem PutOk.keep {S : Nat → Prop} {w w' : World} {B C q mb : Nat} {R : Ro} {c nm : ByteArray} {gs : List ByteArray} {x : En} (h : PutOk B q mb R c nm gs x w) (hk : Keep S w w') (hq : ¬ S q) (hm : ¬ S mb) (hs : ∀ i, B ≤ i → Ty w i → ¬ S i) (hc : C ≤ B) : PutOk C q mb R c nm gs x w' := by
  obtain ⟨g, g', e, h1, h2, h3, h4, h5, h6⟩ := h
  exact ⟨g, g', e, h1.keep hk hq hm, h2.keep hk (fun ad e => hs _ (h3 ad.block (gad_some e)).1 (h3 ad.block (gad_some e)).2), (h3.keep hk (fun b e => hs b (h3 b e).1 (h3 b e).2)).mono hc, h4, h5.keep hk (fun ad e => hs _ (h6 ad.block (gad_some e)).1 (h6 ad.block (gad_some e)).2), (h6.keep hk (fun b e => hs b (h6 b e).1 (h6 b e).2)).mono hc⟩
set_option maxHeartbeats 1600000 in
theorem putC_ok (b : Nat) (w : World) (q mb : Nat) (R : Ro) (h : RA w q mb R) (hG : RG R) (s nm : ByteArray) (hs : s.size ≤ 1000000) (hn : nm.size ≤ 281474976710656) (a : Option Addr) (n cc : Nat) (gs : List ByteArray) (hg : GRd w a n cc gs) (hgn : n ≤ 100000) (hgs : ∀ s ∈ gs, s.size ≤ 281474976710656) (hq : q < b) (hm : mb < b) (hT : Lib.Utf8Tabs 2 3 w) (hp : (prepB s).size ≤ 1000000) (hx : w.heap[b]? = some (.cells #[.pointer (some ⟨q, 0, none⟩)] 23 (0, 0)) ∧ w.heap[b + 1]? = some (.cells #[.string s] 9 (0, 0)) ∧ w.heap[b + 2]? = some (.cells #[.string nm] 9 (0, 0)) ∧ w.heap[b + 3]? = some (.cells #[.slice a n cc] 32 (0, 0))) (h0 : prepE s = 0) (h1 : putE R (prepB s) nm gs = 0) :
    Calls Tryz.prog 51 #[.pointer (some ⟨b, 0, none⟩), .pointer (some ⟨b + 1, 0, none⟩), .pointer (some ⟨b + 2, 0, none⟩), .pointer (some ⟨b + 3, 0, none⟩)] w fun e w' => ∃ x, e = .returned (.agg (enc x)) ∧ PutOk w.heap.size q mb R (prepB s) nm gs x w' ∧ Keep (fun j => j = q ∨ j = mb) w w' := by
  have hbs : b + 3 < w.heap.size := (Array.getElem?_eq_some_iff.1 hx.2.2.2).1
  generalize hW : (w.alloc (.cells (enc (en0 ⟨#[]⟩)) 51)).drew = W
  have hbW : Below w.heap.size w W := by rw [← hW]; exact (below1 _ _).drew
  have hz : W.heap[w.heap.size]? = some (.cells (enc (en0 ⟨#[]⟩)) 51 (0, 0)) := by rw [← hW]; exact push_at _ _ rfl
  have HW : Hid ((w.alloc (.cells (enc (en0 ⟨#[]⟩)) 51)).drew = W) := hW
  have HS0 : W.heap[b]? = some (.cells #[.pointer (some ⟨q, 0, none⟩)] 23 (0, 0)) ∧ W.heap[b + 1]? = some (.cells #[.string s] 9 (0, 0)) ∧ W.heap[b + 2]? = some (.cells #[.string nm] 9 (0, 0)) ∧ W.heap[b + 3]? = some (.cells #[.slice a n cc] 32 (0, 0)) := ⟨box_below hx.1 hbW, box_below hx.2.1 hbW, box_below hx.2.2.1 hbW, box_below hx.2.2.2 hbW⟩
  have cLW := rlocal_any s W (by omega) (tabs_bel hT hbW)
  have HR : Hid (RA W q mb R ∧ Below w.heap.size w W ∧ W.heap[w.heap.size]? = some (.cells (enc (en0 ⟨#[]⟩)) 51 (0, 0)) ∧ b + 3 < w.heap.size) := ⟨h.below hbW, hbW, hz, hbs⟩
  have CP0 : Hid (∀ w1, Below w.heap.size w w1 → Calls Tryz.prog 52 #[.pointer (some ⟨q, 0, none⟩), .string (prepB s), .string nm, .slice a n cc] w1 (Putt w1 q mb R (prepB s) nm gs)) := fun w1 hb => put_any w1 q mb R (h.below hb) hG (prepB s) nm hp hn a n cc gs (hg.below hb) hgn hgs (tabs_bel hT hb)
  have HX : Hid (w.heap[b]? = some (.cells #[.pointer (some ⟨q, 0, none⟩)] 23 (0, 0)) ∧ w.heap[b + 1]? = some (.cells #[.string s] 9 (0, 0)) ∧ w.heap[b + 2]? = some (.cells #[.string nm] 9 (0, 0)) ∧ w.heap[b + 3]? = some (.cells #[.slice a n cc] 32 (0, 0))) := hx
  clear hW hT h hG hbs hg hgn hgs hn hx hp
  have cl : Calls Tryz.prog 53 #[.string s] W fun e w' => e = .returned (.string (prepB s)) ∧ Below W.heap.size W w' := cLW.mono (fun e w' hh => ⟨hh.1.elim (fun k => k.2) (fun k => absurd h0 k.1), hh.2⟩)
  clear cLW
  generalize prepB s = c at *
  have H1 : Hid (putE R c nm gs = 0) := h1
  clear h0 h1 hs
  · go_enter Tryz.func51, Tryz.ntmps51
    go_upto_region 1 with fail
    refine wp_region_lx (fun w' => w'.heap[b]? = some (.cells #[.pointer (some ⟨q, 0, none⟩)] 23 (0, 0)) ∧ w'.heap[b + 1]? = some (.cells #[.string s] 9 (0, 0)) ∧ w'.heap[b + 2]? = some (.cells #[.string nm] 9 (0, 0)) ∧ w'.heap[b + 3]? = some (.cells #[.slice a n cc] 32 (0, 0))) [] 7 (by kernel_rfl) (by kernel_rfl) ?_
    rw [show (w.alloc (.cells #[.string ⟨#[]⟩, .bool false, .string ⟨#[]⟩, .slice none 0 0, .int .i64 0, .int .u64 0, .int .i64 0, .int .u64 0] 51)).drew = W from HW.out]
    refine lx_r 0 (.pointer (some ⟨q, 0, none⟩)) HS0 ?_ (hv := fun w' hS => by have p := cell_one hS.1; first | (go_simp; rfl) | go_simp); simp only [lxa, lxb, lxc]
    refine lx_r 1 (.string s) HS0 ?_ (hv := fun w' hS => by have p := cell_one hS.2.1; first | (go_simp; rfl) | go_simp); simp only [lxa, lxb, lxc]
    refine lx_r 3 (.string nm) HS0 ?_ (hv := fun w' hS => by have p := cell_one hS.2.2.1; first | (go_simp; rfl) | go_simp); simp only [lxa, lxb, lxc]
    refine lx_r 4 (.slice a n cc) HS0 ?_ (hv := fun w' hS => by have p := cell_one hS.2.2.2; first | (go_simp; rfl) | go_simp); simp only [lxa, lxb, lxc]
    refine lx_one 2 (by kernel_rfl) (stepT_call 53 ?c2 rfl rfl rfl ?d2 ?_)
    case d2 => first | (go_simp; rfl) | go_simp
    refine cl.mono ?_
    rintro e w1 ⟨rfl, hb1⟩
    have HS1 : w1.heap[b]? = some (.cells #[.pointer (some ⟨q, 0, none⟩)] 23 (0, 0)) ∧ w1.heap[b + 1]? = some (.cells #[.string s] 9 (0, 0)) ∧ w1.heap[b + 2]? = some (.cells #[.string nm] 9 (0, 0)) ∧ w1.heap[b + 3]? = some (.cells #[.slice a n cc] 32 (0, 0)) := ⟨box_below HS0.1 hb1, box_below HS0.2.1 hb1, box_below HS0.2.2.1 hb1, box_below HS0.2.2.2 hb1⟩
    refine ⟨_, rfl, fun _ => HS1, ?_⟩
    simp only [lxa, lxb, lxc]
    have hz1 := box_below HR.out.2.2.1 hb1
    have b1 : Below w.heap.size w w1 := HR.out.2.1.trans (hb1.mono HR.out.2.1.size)
    have hbs := HR.out.2.2.2
    have lz1 : w.heap.size < w1.heap.size := (Array.getElem?_eq_some_iff.1 hz1).1
    refine lx_one 5 (by kernel_rfl) (stepT_call 52 ?c4 rfl rfl rfl ?d4 ?_)
    case d4 => first | (go_simp; rfl) | go_simp
    refine (CP0.out w1 b1).mono ?_
    intro e w2 hP
    rcases hP with ⟨hne, _⟩ | ⟨_, g, g', rfl, hr2, p1, p2, p3, p4, p5, k2⟩
    · exact absurd H1.out hne
    have HS2 : w2.heap[b]? = some (.cells #[.pointer (some ⟨q, 0, none⟩)] 23 (0, 0)) ∧ w2.heap[b + 1]? = some (.cells #[.string s] 9 (0, 0)) ∧ w2.heap[b + 2]? = some (.cells #[.string nm] 9 (0, 0)) ∧ w2.heap[b + 3]? = some (.cells #[.slice a n cc] 32 (0, 0)) := ⟨box_keep HS1.1 k2 (by omega), box_keep HS1.2.1 k2 (by omega), box_keep HS1.2.2.1 k2 (by omega), box_keep HS1.2.2.2 k2 (by omega)⟩
    refine ⟨_, rfl, fun _ => HS2, ?_⟩
    simp only [lxa, lxb, lxc]
    have hz2 := box_keep hz1 k2 (by omega)
    obtain ⟨v, Hv⟩ : ∃ v, Hid (putN R c nm g' = v) := ⟨_, rfl⟩
    rw [Hv.out]
    have ok2 : PutOk w1.heap.size q mb R c nm gs v w2 := ⟨g, g', Hv.out.symm, hr2, p1, p2, p3, p4, p5⟩
    have k3 := rowK w2 w.heap.size (enc v)
    have HS3 : (w2.setRow w.heap.size (enc v)).heap[b]? = some (.cells #[.pointer (some ⟨q, 0, none⟩)] 23 (0, 0)) ∧ (w2.setRow w.heap.size (enc v)).heap[b + 1]? = some (.cells #[.string s] 9 (0, 0)) ∧ (w2.setRow w.heap.size (enc v)).heap[b + 2]? = some (.cells #[.string nm] 9 (0, 0)) ∧ (w2.setRow w.heap.size (enc v)).heap[b + 3]? = some (.cells #[.slice a n cc] 32 (0, 0)) := ⟨box_keep HS2.1 k3 (by omega), box_keep HS2.2.1 k3 (by omega), box_keep HS2.2.2.1 k3 (by omega), box_keep HS2.2.2.2 k3 (by omega)⟩
    refine lx_one 6 (by kernel_rfl) (stepT_store (w' := w2.setRow w.heap.size (enc v)) rfl rfl rfl ?d5 (fun _ => HS3) ?_)
    case d5 => exact exec_store_row 51 (.tmp 4) (.tmp 10) rfl w.heap.size (enc v) _ rfl rfl hz2 (by rw [infoEntry]; rfl) (by rfl) (enc_one _)
    refine lx_nil (by kernel_rfl) ?_
    have a1 := ok2.keep k3 (C := w.heap.size) (by omega) (by omega) (fun i hi _ => by omega) (by omega)
    have a2 := setRow_heap w2 w.heap.size _ (enc v) 51 (0, 0) hz2
    have a3 : Keep (fun j => j = q ∨ j = mb) w (w2.setRow w.heap.size (enc v)) := ((Keep.ofBelow b1).trans k2).andThen k3 (fun i h1 h2 => by omega)
    have hld := run_loadVar_row _ w.heap.size 51 51 _ (0, 0) _ a2 Tryz.underlying51 rfl (by rw [infoEntry]; rfl)
    go_wp2
    first | exact bodyPost_ret (res_row rfl _ _ _ _ rfl hld) rfl ⟨v, rfl, a1, a3⟩ | exact bodyPost_end (res_row rfl _ _ _ _ rfl hld) rfl ⟨v, rfl, a1, a3⟩
set_option maxHeartbeats 1600000 in
theorem putC_no (b : Nat) (w : World) (q mb : Nat) (R : Ro) (h : RA w q mb R) (hG : RG R) (s nm : ByteArray) (hs : s.size ≤ 1000000) (hn : nm.size ≤ 281474976710656) (a : Option Addr) (n cc : Nat) (gs : List ByteArray) (hg : GRd w a n cc gs) (hgn : n ≤ 100000) (hgs : ∀ s ∈ gs, s.size ≤ 281474976710656) (hT : Lib.Utf8Tabs 2 3 w) (hp : (prepB s).size ≤ 1000000) (hx : w.heap[b]? = some (.cells #[.pointer (some ⟨q, 0, none⟩)] 23 (0, 0)) ∧ w.heap[b + 1]? = some (.cells #[.string s] 9 (0, 0)) ∧ w.heap[b + 2]? = some (.cells #[.string nm] 9 (0, 0)) ∧ w.heap[b + 3]? = some (.cells #[.slice a n cc] 32 (0, 0))) (h1 : putF R s nm gs ≠ 0) :
    Calls Tryz.prog 51 #[.pointer (some ⟨b, 0, none⟩), .pointer (some ⟨b + 1, 0, none⟩), .pointer (some ⟨b + 2, 0, none⟩), .pointer (some ⟨b + 3, 0, none⟩)] w fun e w' => e = .panicked (gaveR (putF R s nm gs)) ∧ RA w' q mb R ∧ Keep (fun j => j = q ∨ j = mb) w w' := by
  have hbs : b + 3 < w.heap.size := (Array.getElem?_eq_some_iff.1 hx.2.2.2).1
  generalize hW : (w.alloc (.cells (enc (en0 ⟨#[]⟩)) 51)).drew = W
  have hbW : Below w.heap.size w W := by rw [← hW]; exact (below1 _ _).drew
  have hz : W.heap[w.heap.size]? = some (.cells (enc (en0 ⟨#[]⟩)) 51 (0, 0)) := by rw [← hW]; exact push_at _ _ rfl
  have HW : Hid ((w.alloc (.cells (enc (en0 ⟨#[]⟩)) 51)).drew = W) := hW
  have HS0 : W.heap[b]? = some (.cells #[.pointer (some ⟨q, 0, none⟩)] 23 (0, 0)) ∧ W.heap[b + 1]? = some (.cells #[.string s] 9 (0, 0)) ∧ W.heap[b + 2]? = some (.cells #[.string nm] 9 (0, 0)) ∧ W.heap[b + 3]? = some (.cells #[.slice a n cc] 32 (0, 0)) := ⟨box_below hx.1 hbW, box_below hx.2.1 hbW, box_below hx.2.2.1 hbW, box_below hx.2.2.2 hbW⟩
  have cLW := rlocal_any s W (by omega) (tabs_bel hT hbW)
  have HR : Hid (RA W q mb R ∧ Below w.heap.size w W ∧ W.heap[w.heap.size]? = some (.cells (enc (en0 ⟨#[]⟩)) 51 (0, 0)) ∧ b + 3 < w.heap.size) := ⟨h.below hbW, hbW, hz, hbs⟩
  have CP0 : Hid (∀ w1, Below w.heap.size w w1 → Calls Tryz.prog 52 #[.pointer (some ⟨q, 0, none⟩), .string (prepB s), .string nm, .slice a n cc] w1 (Putt w1 q mb R (prepB s) nm gs)) := fun w1 hb => put_any w1 q mb R (h.below hb) hG (prepB s) nm hp hn a n cc gs (hg.below hb) hgn hgs (tabs_bel hT hb)
  have HX : Hid (w.heap[b]? = some (.cells #[.pointer (some ⟨q, 0, none⟩)] 23 (0, 0)) ∧ w.heap[b + 1]? = some (.cells #[.string s] 9 (0, 0)) ∧ w.heap[b + 2]? = some (.cells #[.string nm] 9 (0, 0)) ∧ w.heap[b + 3]? = some (.cells #[.slice a n cc] 32 (0, 0))) := hx
  clear hW hT h hG hbs hg hgn hgs hn hx hp
  by_cases h0 : prepE s = 0
  · have hF : Hid (putF R s nm gs = putE R (prepB s) nm gs) := by show _ = _; unfold putF; rw [if_pos h0]
    rw [hF.out] at h1 ⊢
    have cl : Calls Tryz.prog 53 #[.string s] W fun e w' => e = .returned (.string (prepB s)) ∧ Below W.heap.size W w' := cLW.mono (fun e w' hh => ⟨hh.1.elim (fun k => k.2) (fun k => absurd h0 k.1), hh.2⟩)
    clear cLW hF
    generalize prepB s = c at *
    have H1 : Hid (putE R c nm gs ≠ 0) := h1
    clear h0 h1 hs
    go_enter Tryz.func51, Tryz.ntmps51
    go_upto_region 1 with fail
    refine wp_region_lx (fun w' => w'.heap[b]? = some (.cells #[.pointer (some ⟨q, 0, none⟩)] 23 (0, 0)) ∧ w'.heap[b + 1]? = some (.cells #[.string s] 9 (0, 0)) ∧ w'.heap[b + 2]? = some (.cells #[.string nm] 9 (0, 0)) ∧ w'.heap[b + 3]? = some (.cells #[.slice a n cc] 32 (0, 0))) [] 7 (by kernel_rfl) (by kernel_rfl) ?_
    rw [show (w.alloc (.cells #[.string ⟨#[]⟩, .bool false, .string ⟨#[]⟩, .slice none 0 0, .int .i64 0, .int .u64 0, .int .i64 0, .int .u64 0] 51)).drew = W from HW.out]
    refine lx_r 0 (.pointer (some ⟨q, 0, none⟩)) HS0 ?_ (hv := fun w' hS => by have p := cell_one hS.1; first | (go_simp; rfl) | go_simp); simp only [lxa, lxb, lxc]
    refine lx_r 1 (.string s) HS0 ?_ (hv := fun w' hS => by have p := cell_one hS.2.1; first | (go_simp; rfl) | go_simp); simp only [lxa, lxb, lxc]
    refine lx_r 3 (.string nm) HS0 ?_ (hv := fun w' hS => by have p := cell_one hS.2.2.1; first | (go_simp; rfl) | go_simp); simp only [lxa, lxb, lxc]
    refine lx_r 4 (.slice a n cc) HS0 ?_ (hv := fun w' hS => by have p := cell_one hS.2.2.2; first | (go_simp; rfl) | go_simp); simp only [lxa, lxb, lxc]
    refine lx_one 2 (by kernel_rfl) (stepT_call 53 ?c2 rfl rfl rfl ?d2 ?_)
    case d2 => first | (go_simp; rfl) | go_simp
    refine cl.mono ?_
    rintro e w1 ⟨rfl, hb1⟩
    have HS1 : w1.heap[b]? = some (.cells #[.pointer (some ⟨q, 0, none⟩)] 23 (0, 0)) ∧ w1.heap[b + 1]? = some (.cells #[.string s] 9 (0, 0)) ∧ w1.heap[b + 2]? = some (.cells #[.string nm] 9 (0, 0)) ∧ w1.heap[b + 3]? = some (.cells #[.slice a n cc] 32 (0, 0)) := ⟨box_below HS0.1 hb1, box_below HS0.2.1 hb1, box_below HS0.2.2.1 hb1, box_below HS0.2.2.2 hb1⟩
    refine ⟨_, rfl, fun _ => HS1, ?_⟩
    simp only [lxa, lxb, lxc]
    have b1 : Below w.heap.size w w1 := HR.out.2.1.trans (hb1.mono HR.out.2.1.size)
    refine lx_one 5 (by kernel_rfl) (stepT_callP 52 ?c4 rfl rfl rfl ?d4 ?_)
    case d4 => first | (go_simp; rfl) | go_simp
    refine (CP0.out w1 b1).mono ?_
    intro e w2 hP
    rcases hP with ⟨_, rfl, hr2, k2⟩ | ⟨hz, _⟩
    · exact Or.inr ⟨_, rfl, rfl, rfl, hr2, (Keep.ofBelow b1).trans k2⟩
    · exact absurd hz H1.out
  · have hF : Hid (putF R s nm gs = prepE s) := by show _ = _; unfold putF; rw [if_neg h0]
    rw [hF.out]
    have cl : Calls Tryz.prog 53 #[.string s] W fun e w' => e = .panicked (gaveR (prepE s)) ∧ Below W.heap.size W w' := cLW.mono (fun e w' hh => ⟨hh.1.elim (fun k => absurd k.1 h0) (fun k => k.2), hh.2⟩)
    clear cLW h1 hF CP0 hs
    go_enter Tryz.func51, Tryz.ntmps51
    go_upto_region 1 with fail
    refine wp_region_lx (fun w' => w'.heap[b]? = some (.cells #[.pointer (some ⟨q, 0, none⟩)] 23 (0, 0)) ∧ w'.heap[b + 1]? = some (.cells #[.string s] 9 (0, 0)) ∧ w'.heap[b + 2]? = some (.cells #[.string nm] 9 (0, 0)) ∧ w'.heap[b + 3]? = some (.cells #[.slice a n cc] 32 (0, 0))) [] 7 (by kernel_rfl) (by kernel_rfl) ?_
    rw [show (w.alloc (.cells #[.string ⟨#[]⟩, .bool false, .string ⟨#[]⟩, .slice none 0 0, .int .i64 0, .int .u64 0, .int .i64 0, .int .u64 0] 51)).drew = W from HW.out]
    refine lx_r 0 (.pointer (some ⟨q, 0, none⟩)) HS0 ?_ (hv := fun w' hS => by have p := cell_one hS.1; first | (go_simp; rfl) | go_simp); simp only [lxa, lxb, lxc]
    refine lx_r 1 (.string s) HS0 ?_ (hv := fun w' hS => by have p := cell_one hS.2.1; first | (go_simp; rfl) | go_simp); simp only [lxa, lxb, lxc]
    refine lx_r 3 (.string nm) HS0 ?_ (hv := fun w' hS => by have p := cell_one hS.2.2.1; first | (go_simp; rfl) | go_simp); simp only [lxa, lxb, lxc]
    refine lx_r 4 (.slice a n cc) HS0 ?_ (hv := fun w' hS => by have p := cell_one hS.2.2.2; first | (go_simp; rfl) | go_simp); simp only [lxa, lxb, lxc]
    refine lx_one 2 (by kernel_rfl) (stepT_callP 53 ?e2 rfl rfl rfl ?f2 ?_)
    case f2 => first | (go_simp; rfl) | go_simp
    refine cl.mono ?_
    rintro e w1 ⟨rfl, hb1⟩
    exact Or.inr ⟨_, rfl, rfl, rfl, HR.out.1.below hb1, (Keep.ofBelow HR.out.2.1).trans (Keep.ofBelow hb1)⟩
end Go.Proofs.YtppdopcghnfapaaGreatDoor

/- roster: Put, whole. -/
set_option maxRecDepth 100000
namespace Go.Proofs.YtppdopcghnfapaaGreatDoor
open Go.RowKit Go.Joins

set_option maxHeartbeats 1600000 in
theorem attemptX (k : Nat) (caps : Array Value) (S : Nat → Prop) (Post : En → World → Prop) (w : World) (hent : ∀ args w, (callFunc k args).run Tryz.prog w = .ok (.enter k args) w) (hS : ∀ i, w.heap.size ≤ i → ¬ S i)
    (hc : Calls Tryz.prog k caps ((w.alloc (.cells (enc (en0 ⟨#[]⟩)) 51)).alloc (.cells #[.int .i64 0] 24)) fun e w' => ∃ x, e = .returned (.agg (enc x)) ∧ Post x w' ∧ Keep S ((w.alloc (.cells (enc (en0 ⟨#[]⟩)) 51)).alloc (.cells #[.int .i64 0] 24)) w') :
    Calls Tryz.prog 50 #[.func (.func k) #[] caps] w fun e w' => ∃ x, e = .returned (.tuple #[.agg (enc x), .int .i64 0]) ∧ ∃ w1, Post x w1 ∧ Keep S w w1 ∧ Keep (fun i => i = w.heap.size ∨ i = w.heap.size + 1) w1 w' := by
  have hmf : ∀ (fn : Fn) (first cap : Array Value) (w : World), (Instr.makeFunc fn first cap).run Tryz.prog w = .ok (.func fn first cap) w := fun _ _ _ _ => rfl
  have hz0 : ((w.alloc (.cells (enc (en0 ⟨#[]⟩)) 51)).alloc (.cells #[.int .i64 0] 24)).heap[w.heap.size]? = some (.cells (enc (en0 ⟨#[]⟩)) 51 (0, 0)) := push_old (push_at _ _ rfl)
  have hz1 : ((w.alloc (.cells (enc (en0 ⟨#[]⟩)) 51)).alloc (.cells #[.int .i64 0] 24)).heap[w.heap.size + 1]? = some (.cells #[.int .i64 0] 24 (0, 0)) := push_at _ _ (by simp)
  have hbW : Below w.heap.size w ((w.alloc (.cells (enc (en0 ⟨#[]⟩)) 51)).alloc (.cells #[.int .i64 0] 24)) := below2 _ _ _
  obtain ⟨b, Hb⟩ : ∃ b, Hid (w.heap.size = b) := ⟨_, rfl⟩
  have hkS : ∀ w', Keep S ((w.alloc (.cells (enc (en0 ⟨#[]⟩)) 51)).alloc (.cells #[.int .i64 0] 24)) w' → Keep S w w' := fun w' k => (Keep.ofBelow hbW).trans k
  have hk0 : ∀ w', Keep S ((w.alloc (.cells (enc (en0 ⟨#[]⟩)) 51)).alloc (.cells #[.int .i64 0] 24)) w' → w'.heap[w.heap.size]? = some (.cells (enc (en0 ⟨#[]⟩)) 51 (0, 0)) := fun w' k => box_keep hz0 k (hS _ (Nat.le_refl _))
  have hk1 : ∀ w', Keep S ((w.alloc (.cells (enc (en0 ⟨#[]⟩)) 51)).alloc (.cells #[.int .i64 0] 24)) w' → w'.heap[w.heap.size + 1]? = some (.cells #[.int .i64 0] 24 (0, 0)) := fun w' k => box_keep hz1 k (hS _ (by omega))
  clear hz0 hz1 hbW
  go_enter_defers Tryz.func50, Tryz.ntmps50
  go_wp2_with (first
    | (go_at_fn k; refine hc.mono ?_; clear hc; rintro e w1 ⟨x, rfl, hP, hB⟩; have z0 := hk0 w1 hB; have z1 := hk1 w1 hB; have hKS := hkS w1 hB; have s1 := box_keep z1 (rowK w1 w.heap.size (enc x)) (by omega); have hcl := cell_one s1; have hfz := thaw_one s1)
    | (refine wpList_store_row rfl 51 (.tmp 2) (.tmp 6) rfl w.heap.size (enc x) rfl rfl 51 _ z0 (by rw [infoEntry]; rfl) (by rfl) (enc_one x) ?_))
  refine leaves_cons (f := 88) (args := #[.pointer (some ⟨w.heap.size + 1, 0, none⟩)]) (by simp) (by simp [go_sem]) ?_
  refine (catchE_idle ⟨w.heap.size + 1, 0, none⟩ _).mono ?_
  rintro e u' w2 ⟨rfl, rfl, hw2⟩
  have y0 : w2.heap[w.heap.size]? = some (.cells (enc x) 51 (0, 0)) := by rw [hw2]; exact box_keep (setRow_heap w1 w.heap.size _ _ 51 (0, 0) z0) (setK _ (w.heap.size + 1) 0 _) (by omega)
  have y1 : w2.cell? ⟨w.heap.size + 1, 0, none⟩ = some (.int .i64 0) := by rw [hw2]; exact cell_one (block_setCell (i := 0) s1 (.int .i64 0))
  have hk2 : Keep (fun i => i = w.heap.size ∨ i = w.heap.size + 1) w1 w2 := by rw [hw2]; exact ((rowK w1 w.heap.size (enc x)).mono (fun i e => Or.inl e)).trans ((setK _ (w.heap.size + 1) 0 _).mono (fun i e => Or.inr e))
  clear hw2 hcl hfz s1 z0 z1
  have hld := run_loadVar_row w2 w.heap.size 51 51 _ (0, 0) _ y0 Tryz.underlying51 rfl (by rw [infoEntry]; rfl)
  simp only [Leaves, settle]
  exact ⟨_, res2 (by rfl) _ w2 _ _ _ _ (by rfl) (by rfl) hld y1, x, rfl, w1, hP, hKS, hk2⟩

theorem attPut_ok (b : Nat) (w : World) (q mb : Nat) (R : Ro) (h : RA w q mb R) (hG : RG R) (s nm : ByteArray) (hs : s.size ≤ 1000000) (hn : nm.size ≤ 281474976710656) (a : Option Addr) (n cc : Nat) (gs : List ByteArray) (hg : GRd w a n cc gs) (hgn : n ≤ 100000) (hgs : ∀ s ∈ gs, s.size ≤ 281474976710656) (hq : q < b) (hm : mb < b) (hT : Lib.Utf8Tabs 2 3 w) (hp : (prepB s).size ≤ 1000000) (hx : w.heap[b]? = some (.cells #[.pointer (some ⟨q, 0, none⟩)] 23 (0, 0)) ∧ w.heap[b + 1]? = some (.cells #[.string s] 9 (0, 0)) ∧ w.heap[b + 2]? = some (.cells #[.string nm] 9 (0, 0)) ∧ w.heap[b + 3]? = some (.cells #[.slice a n cc] 32 (0, 0))) (h0 : prepE s = 0) (h1 : putE R (prepB s) nm gs = 0) :
    Calls Tryz.prog 50 #[.func (.func 51) #[] #[.pointer (some ⟨b, 0, none⟩), .pointer (some ⟨b + 1, 0, none⟩), .pointer (some ⟨b + 2, 0, none⟩), .pointer (some ⟨b + 3, 0, none⟩)]] w fun e w' => ∃ x, e = .returned (.tuple #[.agg (enc x), .int .i64 0]) ∧ PutOk w.heap.size q mb R (prepB s) nm gs x w' ∧ Keep (fun j => j = q ∨ j = mb) w w' := by
  have hbW := below2 w (.cells (enc (en0 ⟨#[]⟩)) 51) (.cells #[.int .i64 0] 24)
  have hbs : b + 3 < w.heap.size := (Array.getElem?_eq_some_iff.1 hx.2.2.2).1
  have hc := putC_ok b _ q mb R (h.below hbW) hG s nm hs hn a n cc gs (hg.below hbW) hgn hgs hq hm (tabs_bel hT hbW) hp ⟨box_below hx.1 hbW, box_below hx.2.1 hbW, box_below hx.2.2.1 hbW, box_below hx.2.2.2 hbW⟩ h0 h1
  refine (attemptX 51 _ (fun j => j = q ∨ j = mb) (fun x w' => PutOk ((w.alloc (.cells (enc (en0 ⟨#[]⟩)) 51)).alloc (.cells #[.int .i64 0] 24)).heap.size q mb R (prepB s) nm gs x w') w (fun args w => by kernel_rfl) (fun i hi => by omega) hc).mono ?_
  rintro e w' ⟨x, rfl, w1, hr, k1, k2⟩
  have hsz : ((w.alloc (.cells (enc (en0 ⟨#[]⟩)) 51)).alloc (.cells #[.int .i64 0] 24)).heap.size = w.heap.size + 2 := by simp
  rw [hsz] at hr
  exact ⟨x, rfl, hr.keep k2 (by omega) (by omega) (fun i hi _ => by omega) (by omega), k1.andThen k2 (fun i h1 h2 => by omega)⟩
theorem attPut_no (b : Nat) (w : World) (q mb : Nat) (R : Ro) (h : RA w q mb R) (hG : RG R) (s nm : ByteArray) (hs : s.size ≤ 1000000) (hn : nm.size ≤ 281474976710656) (a : Option Addr) (n cc : Nat) (gs : List ByteArray) (hg : GRd w a n cc gs) (hgn : n ≤ 100000) (hgs : ∀ s ∈ gs, s.size ≤ 281474976710656) (hq : q < b) (hm : mb < b) (hT : Lib.Utf8Tabs 2 3 w) (hp : (prepB s).size ≤ 1000000) (hx : w.heap[b]? = some (.cells #[.pointer (some ⟨q, 0, none⟩)] 23 (0, 0)) ∧ w.heap[b + 1]? = some (.cells #[.string s] 9 (0, 0)) ∧ w.heap[b + 2]? = some (.cells #[.string nm] 9 (0, 0)) ∧ w.heap[b + 3]? = some (.cells #[.slice a n cc] 32 (0, 0))) (h1 : putF R s nm gs ≠ 0) :
    Calls Tryz.prog 50 #[.func (.func 51) #[] #[.pointer (some ⟨b, 0, none⟩), .pointer (some ⟨b + 1, 0, none⟩), .pointer (some ⟨b + 2, 0, none⟩), .pointer (some ⟨b + 3, 0, none⟩)]] w fun e w' => e = .returned (.tuple #[.agg (enc (en0 ⟨#[]⟩)), .int .i64 (putF R s nm gs)]) ∧ RA w' q mb R ∧ Keep (fun j => j = q ∨ j = mb) w w' := by
  have hbW := below2 w (.cells (enc (en0 ⟨#[]⟩)) 51) (.cells #[.int .i64 0] 24)
  have hbs : b + 3 < w.heap.size := (Array.getElem?_eq_some_iff.1 hx.2.2.2).1
  have hc := putC_no b _ q mb R (h.below hbW) hG s nm hs hn a n cc gs (hg.below hbW) hgn hgs (tabs_bel hT hbW) hp ⟨box_below hx.1 hbW, box_below hx.2.1 hbW, box_below hx.2.2.1 hbW, box_below hx.2.2.2 hbW⟩ h1
  refine (attemptE 51 _ (putF R s nm gs) (en0 ⟨#[]⟩) (fun j => j = q ∨ j = mb) (fun w' => RA w' q mb R) w (fun args w => by kernel_rfl) (fun i hi => by omega) (hc.mono fun e w' hh => ⟨gv_no h1 hh.1, hh.2⟩)).mono ?_
  rintro e w' ⟨rfl, w1, hr, k1, k2⟩
  refine ⟨?_, hr.keep k2 (by omega) (by omega), k1.andThen k2 (fun i h1 h2 => by omega)⟩
  rw [if_neg h1]
set_option maxHeartbeats 1600000 in
theorem Put_ok (w : World) (q mb : Nat) (R : Ro) (h : RA w q mb R) (hG : RG R) (s nm : ByteArray) (hs : s.size ≤ 1000000) (hn : nm.size ≤ 281474976710656) (a : Option Addr) (n cc : Nat) (gs : List ByteArray) (hg : GRd w a n cc gs) (hgn : n ≤ 100000) (hgs : ∀ s ∈ gs, s.size ≤ 281474976710656) (hT : Lib.Utf8Tabs 2 3 w) (hp : (prepB s).size ≤ 1000000) (h0 : prepE s = 0) (h1 : putE R (prepB s) nm gs = 0) :
    Calls Tryz.prog 18 #[.pointer (some ⟨q, 0, none⟩), .string s, .string nm, .slice a n cc] w fun e w' => ∃ x, e = .returned (.tuple #[env x, .int .i64 0]) ∧ PutOk w.heap.size q mb R (prepB s) nm gs x w' ∧ Keep (fun j => j = q ∨ j = mb) w w' := by
  have hmf : ∀ (fn : Fn) (first cap : Array Value) (w : World), (Instr.makeFunc fn first cap).run Tryz.prog w = .ok (.func fn first cap) w := fun _ _ _ _ => rfl
  have hb : Below w.heap.size w (((((w.alloc (.cells #[.pointer (some ⟨q, 0, none⟩)] 23)).alloc (.cells #[.string s] 9)).alloc (.cells #[.string nm] 9)).alloc (.cells #[.slice a n cc] 32)).alloc (.cells #[.string ⟨#[]⟩, .bool false, .string ⟨#[]⟩, .slice none 0 0, .int .i64 0, .int .u64 0, .int .i64 0, .int .u64 0] 51)) := ((((((Below.refl _ _).alloc (Nat.le_refl _) _).alloc (by simp) _).alloc (by simp; omega) _).alloc (by simp; omega) _).alloc (by simp; omega) _)
  have hz : EnAt (((((w.alloc (.cells #[.pointer (some ⟨q, 0, none⟩)] 23)).alloc (.cells #[.string s] 9)).alloc (.cells #[.string nm] 9)).alloc (.cells #[.slice a n cc] 32)).alloc (.cells #[.string ⟨#[]⟩, .bool false, .string ⟨#[]⟩, .slice none 0 0, .int .i64 0, .int .u64 0, .int .i64 0, .int .u64 0] 51)) (w.heap.size + 4) (en0 ⟨#[]⟩) := push_at _ _ (by simp)
  have hq := h.lt
  have hm := h.map.lt
  have hc := attPut_ok w.heap.size _ q mb R (h.below hb) hG s nm hs hn a n cc gs (hg.below hb) hgn hgs hq hm (tabs_bel hT hb) hp ⟨push_old (push_old (push_old (push_old (push_at _ _ rfl)))), push_old (push_old (push_old (push_at _ _ (by simp)))), push_old (push_old (push_at _ _ (by simp))), push_old (push_at _ _ (by simp))⟩ h0 h1
  have HB : Hid (Below w.heap.size w _ ∧ EnAt _ _ _) := ⟨hb, hz⟩
  have HL : Hid (q < w.heap.size ∧ mb < w.heap.size) := ⟨hq, hm⟩
  have hsz : Hid ((((((w.alloc (.cells #[.pointer (some ⟨q, 0, none⟩)] 23)).alloc (.cells #[.string s] 9)).alloc (.cells #[.string nm] 9)).alloc (.cells #[.slice a n cc] 32)).alloc (.cells #[.string ⟨#[]⟩, .bool false, .string ⟨#[]⟩, .slice none 0 0, .int .i64 0, .int .u64 0, .int .i64 0, .int .u64 0] 51)).heap.size = w.heap.size + 5) := by show _ = _; simp
  rw [hsz.out] at hc
  clear h hT hb hq hm hp hz hs hn hg hgn hgs hG h0 h1 hsz
  go_enter Tryz.func18, Tryz.ntmps18
  go_wp2_with (first
    | (go_at_call 50; refine hc.mono ?_; clear hc; rintro e w4 ⟨x, rfl, hr4, k4⟩; obtain ⟨V, HV⟩ : ∃ V, Hid (env x = V) := ⟨_, rfl⟩; rw [show Value.agg (enc x) = V from HV.out]; have z4 : EnAt w4 (w.heap.size + 4) (en0 ⟨#[]⟩) := box_keep HB.out.2 k4 (by have := HL.out; omega))
    | (refine wp_store_en rfl (.tmp 8) (.tmp 12) rfl (w.heap.size + 4) rfl x HV.out.symm _ z4 ?_))
  have k5 := rowK w4 (w.heap.size + 4) (enc x)
  have hld := (z4.set x).load
  refine bodyPost_ret (resCT rfl _ _ _ _ _ rfl rfl hld) rfl ⟨x, rfl, hr4.keep k5 (by have := HL.out; omega) (by have := HL.out; omega) (fun i hi _ => by omega) (by omega), ((Keep.ofBelow HB.out.1).trans k4).andThen k5 (fun i h1 h2 => by omega)⟩
set_option maxHeartbeats 1600000 in
theorem Put_no (w : World) (q mb : Nat) (R : Ro) (h : RA w q mb R) (hG : RG R) (s nm : ByteArray) (hs : s.size ≤ 1000000) (hn : nm.size ≤ 281474976710656) (a : Option Addr) (n cc : Nat) (gs : List ByteArray) (hg : GRd w a n cc gs) (hgn : n ≤ 100000) (hgs : ∀ s ∈ gs, s.size ≤ 281474976710656) (hT : Lib.Utf8Tabs 2 3 w) (hp : (prepB s).size ≤ 1000000) (h1 : putF R s nm gs ≠ 0) :
    Calls Tryz.prog 18 #[.pointer (some ⟨q, 0, none⟩), .string s, .string nm, .slice a n cc] w fun e w' => e = .returned (.tuple #[env (en0 ⟨#[]⟩), .int .i64 (putF R s nm gs)]) ∧ RA w' q mb R ∧ Keep (fun j => j = q ∨ j = mb) w w' := by
  have hmf : ∀ (fn : Fn) (first cap : Array Value) (w : World), (Instr.makeFunc fn first cap).run Tryz.prog w = .ok (.func fn first cap) w := fun _ _ _ _ => rfl
  have hb : Below w.heap.size w (((((w.alloc (.cells #[.pointer (some ⟨q, 0, none⟩)] 23)).alloc (.cells #[.string s] 9)).alloc (.cells #[.string nm] 9)).alloc (.cells #[.slice a n cc] 32)).alloc (.cells #[.string ⟨#[]⟩, .bool false, .string ⟨#[]⟩, .slice none 0 0, .int .i64 0, .int .u64 0, .int .i64 0, .int .u64 0] 51)) := ((((((Below.refl _ _).alloc (Nat.le_refl _) _).alloc (by simp) _).alloc (by simp; omega) _).alloc (by simp; omega) _).alloc (by simp; omega) _)
  have hz : EnAt (((((w.alloc (.cells #[.pointer (some ⟨q, 0, none⟩)] 23)).alloc (.cells #[.string s] 9)).alloc (.cells #[.string nm] 9)).alloc (.cells #[.slice a n cc] 32)).alloc (.cells #[.string ⟨#[]⟩, .bool false, .string ⟨#[]⟩, .slice none 0 0, .int .i64 0, .int .u64 0, .int .i64 0, .int .u64 0] 51)) (w.heap.size + 4) (en0 ⟨#[]⟩) := push_at _ _ (by simp)
  have hq := h.lt
  have hm := h.map.lt
  have hc := attPut_no w.heap.size _ q mb R (h.below hb) hG s nm hs hn a n cc gs (hg.below hb) hgn hgs hq hm (tabs_bel hT hb) hp ⟨push_old (push_old (push_old (push_old (push_at _ _ rfl)))), push_old (push_old (push_old (push_at _ _ (by simp)))), push_old (push_old (push_at _ _ (by simp))), push_old (push_at _ _ (by simp))⟩ h1
  have HB : Hid (Below w.heap.size w _ ∧ EnAt _ _ _) := ⟨hb, hz⟩
  have HL : Hid (q < w.heap.size ∧ mb < w.heap.size) := ⟨hq, hm⟩
  obtain ⟨N, HN⟩ : ∃ N, Hid (putF R s nm gs = N) := ⟨_, rfl⟩
  rw [HN.out] at hc ⊢
  obtain ⟨V, HV⟩ : ∃ V, Hid (env (en0 ⟨#[]⟩) = V) := ⟨_, rfl⟩
  rw [HV.out]
  rw [show Value.agg (enc (en0 ⟨#[]⟩)) = V from HV.out] at hc
  clear h hT hb hq hm hp hz hs hn hg hgn hgs hG h1 HN
  go_enter Tryz.func18, Tryz.ntmps18
  go_wp2_with (first
    | (go_at_call 50; refine hc.mono ?_; clear hc; rintro e w4 ⟨rfl, hr4, k4⟩; have z4 : EnAt w4 (w.heap.size + 4) (en0 ⟨#[]⟩) := box_keep HB.out.2 k4 (by have := HL.out; omega))
    | (refine wp_store_en rfl (.tmp 8) (.tmp 12) rfl (w.heap.size + 4) rfl (en0 ⟨#[]⟩) HV.out.symm _ z4 ?_))
  have k5 := rowK w4 (w.heap.size + 4) (enc (en0 ⟨#[]⟩))
  have hld := (z4.set (en0 ⟨#[]⟩)).load
  rw [HV.out] at hld
  refine bodyPost_ret (resCT rfl _ _ _ _ _ rfl rfl hld) rfl ⟨rfl, hr4.keep k5 (by have := HL.out; omega) (by have := HL.out; omega), ((Keep.ofBelow HB.out.1).trans k4).andThen k5 (fun i h1 h2 => by omega)⟩
end Go.Proofs.YtppdopcghnfapaaGreatDoor

/- roster: roostkeep.Text, Texts, Same. -/
set_option maxRecDepth 100000
namespace Go.Proofs.YtppdopcghnfapaaGreatDoor
open Go.RowKit Go.Joins Go.Shelf

/-- A text, cut. -/
def cutB (s : ByteArray) (most : Nat) : ByteArray := ⟨(s.data.toList.take most).toArray⟩
theorem cutB_size (s : ByteArray) (most : Nat) : (cutB s most).size ≤ most := by
  show (s.data.toList.take most).toArray.size ≤ most
  rw [List.size_toArray, List.length_take]; omega
theorem cutB_all {s : ByteArray} {most : Nat} (h : s.size ≤ most) : cutB s most = s := by
  apply ba_ext
  show (s.data.toList.take most).toArray.toList = _
  rw [List.toList_toArray, List.take_of_length_le]
  have : s.data.toList.length = s.size := by simp
  omega
theorem ktext_any (s : ByteArray) (most : Nat) (w : World) (hm : most ≤ 100000) :
    Calls Tryz.prog 19 #[.string s, .int .i64 most] w fun e w' => e = .returned (.string (cutB s most)) ∧ w' = w := by
  by_cases hn : (most : Int) < (s.size : Int)
  · have e1 : cutB s most = s.extract 0 most := by
      rw [Lib.extract_eq]; rfl
    rw [e1]
    clear e1
    go_enter Tryz.func19, Tryz.ntmps19
    go_wp2
    go_ret
    exact ⟨rfl, rfl⟩
  · have e1 : cutB s most = s := cutB_all (by omega)
    rw [e1]
    clear e1
    go_enter Tryz.func19, Tryz.ntmps19
    go_wp2
    go_ret
    exact ⟨rfl, rfl⟩
/-- Texts of a list, cut. -/
def cutG (ts : List ByteArray) (most long : Nat) : List ByteArray := (ts.take most).map fun t => cutB t long
theorem cutG_len (ts : List ByteArray) (most long : Nat) : (cutG ts most long).length ≤ most := by unfold cutG; rw [List.length_map, List.length_take]; omega
theorem cutG_size (ts : List ByteArray) (most long : Nat) : ∀ t ∈ cutG ts most long, t.size ≤ long := by
  intro t ht
  unfold cutG at ht
  obtain ⟨u, _, rfl⟩ := List.mem_map.1 ht
  exact cutB_size u long
theorem tx_app (a b : List ByteArray) : tx (a ++ b) = tx a ++ tx b := by simp [tx]
set_option maxHeartbeats 1600000 in
theorem ktexts_any (a : Option Addr) (n c : Nat) (ts : List ByteArray) (most long : Nat) (w : World) (h : GRd w a n c ts) (hm : most ≤ 1000) (hl : long ≤ 100000) :
    Calls Tryz.prog 20 #[.slice a n c, .int .i64 most, .int .i64 long] w fun e w' => ∃ v, e = .returned v ∧ w'.ownsRow w.heap.size 9 1 v (cutG ts most long).length (tx (cutG ts most long)) ∧ Below w.heap.size w w' := by
  have hcap := h.cap
  have hmost := h.most
  have HL : Hid (ts.length = n) := h.len
  unfold maxLen at hmost
  obtain ⟨M, HM⟩ : ∃ M, Hid (most = M) := ⟨_, rfl⟩
  go_enter Tryz.func20, Tryz.ntmps20
  go_wp2
  go_loopw [7, 8] (fun v i wr => ∃ k : Nat, k ≤ n ∧ k ≤ most ∧ i = .int .i64 k ∧ Hid (wr.ownsRow w.heap.size 9 1 v k (tx ((ts.take k).map fun t => cutB t long))) ∧ Hid (Below w.heap.size w wr)) (fun _ i _ => n - (intOf i).toNat)
  case atStart => exact ⟨0, by omega, by omega, rfl, World.ownsRow_nil .., Below.refl _ _⟩
  case round =>
    rename_i v _ _
    obtain ⟨k, hk, hkm, rfl, HO, HB⟩ := hrel
    have hsz := HB.out.size
    by_cases hkn : (k : Int) < (n : Int)
    · by_cases hkq : (k : Int) < (most : Int)
      · obtain ⟨b, off, rfl, hcell⟩ := (h.below HB.out).flat (by omega)
        have hc := hcell k (by omega)
        obtain ⟨y, hy⟩ : ∃ y, ts[k]? = some y := ⟨_, List.getElem?_eq_getElem (by rw [HL.out]; omega)⟩
        rw [show ts.getD k ⟨#[]⟩ = y by rw [List.getD_eq_getElem?_getD, hy]; rfl] at hc
        have HX : Hid (tx ((ts.take (k + 1)).map fun t => cutB t long) = tx ((ts.take k).map fun t => cutB t long) ++ [.string (cutB y long)]) := by
          show _ = _
          rw [List.take_add_one, hy, List.map_append, tx_app]; rfl
        have ov := HO.out
        obtain ⟨av, cv, hv⟩ := ownT_sl ov
        subst hv
        have hTx := fun w => ktext_any y long w hl
        clear hcell hy h HO
        go_wp2_with (first
          | (go_at_call 19; refine (hTx _).mono ?_; clear hTx; rintro e w2 ⟨rfl, hw2⟩; replace hw2 := hw2.symm; subst hw2)
          | (at_builtin; refine wp_app1 32 9 _ 1 16 Tryz.underlying32 infoStrT rfl (by decide) (by decide) rfl (.tmp 20) (.tmp 27) rfl w.heap.size (.slice av k cv) k _ rfl ov #[.string (cutB y long)] rfl (by simp [Value.oneCell']) rfl (by omega) hsz ?_; intro v7 w7 o7 k7 n7))
        have HB7 : Hid (Below w.heap.size w w7) := HB.out.trans (k7.below hsz (fun g' hg => (ov.lt g' hg).1))
        have HO7 : Hid (w7.ownsRow w.heap.size 9 1 v7 (k + 1) (tx ((ts.take (k + 1)).map fun t => cutB t long))) := by
          show World.ownsRow _ _ _ _ _ _ _
          rw [HX.out]; exact o7
        clear ov o7 k7 n7 HB HX
        go_wp2
        go_roundw
        case rel => exact ⟨k + 1, by omega, by omega, by go_num, HO7, HB7⟩
        case measure => simp [intOf]; omega
      · have HX : Hid (cutG ts most long = (ts.take k).map (fun t => cutB t long)) := by
          unfold cutG; rw [show k = most by omega]; rfl
        clear h
        go_wp2
        go_ret
        rw [HX.out]
        refine ⟨_, rfl, ?_, HB.out⟩
        rw [List.length_map, List.length_take, HL.out, Nat.min_eq_left hk]
        exact HO.out
    · have HX : Hid (cutG ts most long = (ts.take k).map (fun t => cutB t long)) := by
        show _ = _
        unfold cutG; rw [List.take_of_length_le (by rw [HL.out]; omega), List.take_of_length_le (by rw [HL.out]; omega)]
      clear h
      go_wp2
      go_ret
      rw [HX.out]
      refine ⟨_, rfl, ?_, HB.out⟩
      rw [List.length_map, List.length_take, HL.out, Nat.min_eq_left hk]
      exact HO.out

end Go.Proofs.YtppdopcghnfapaaGreatDoor

/- roster: roostkeep.Same. -/
set_option maxRecDepth 100000
namespace Go.Proofs.YtppdopcghnfapaaGreatDoor
open Go.RowKit Go.Joins Go.Shelf

theorem eqB (x y : ByteArray) : (x.toList == y.toList) = decide (x = y) := by
  rw [ByteArray.toList_eq, ByteArray.toList_eq]
  by_cases h : x = y
  · subst h; simp
  · have : x.data.toList ≠ y.data.toList := fun e => h (ba_ext e)
    rw [decide_eq_false h, beq_eq_false_iff_ne]
    exact this
set_option maxHeartbeats 1600000 in
theorem ksame_any (a : Option Addr) (n c : Nat) (ts : List ByteArray) (a2 : Option Addr) (n2 c2 : Nat) (us : List ByteArray) (w : World) (h : GRd w a n c ts) (h2 : GRd w a2 n2 c2 us) :
    Calls Tryz.prog 36 #[.slice a n c, .slice a2 n2 c2] w fun e w' => e = .returned (.bool (decide (ts = us))) ∧ Below w.heap.size w w' := by
  have Hn : Hid (ts.length = n ∧ us.length = n2) := ⟨h.len, h2.len⟩
  have hcap := h.cap
  have hmost := h.most
  unfold maxLen at hmost
  by_cases hd : n = n2
  · subst hd
    have hnn : ((n : Int) != (n : Int)) = false := by simp
    go_enter Tryz.func36, Tryz.ntmps36
    go_upto_region 4 with fail
    go_loopw [5] (fun s13 wr => ∃ j : Nat, s13 = .int .i64 (j : Int) ∧ j ≤ n ∧ Hid (∀ i, i < j → ts.getD i ⟨#[]⟩ = us.getD i ⟨#[]⟩) ∧ Hid (Below w.heap.size w wr)) (fun s13 _ => n - (intOf s13).toNat)
    case atStart => exact ⟨0, rfl, by omega, fun i hi => by omega, Below.refl _ _⟩
    case round =>
      obtain ⟨j, rfl, hj, HN, HB⟩ := hrel
      by_cases hlt : j < n
      · have hcl : (j : Int) < (n : Int) := by omega
        obtain ⟨b, off, rfl, hce⟩ := (h.below HB.out).flat (by omega)
        obtain ⟨b2, off2, rfl, hce2⟩ := (h2.below HB.out).flat (by omega)
        have u1 := hce j (by omega)
        have u2 := hce2 j (by omega)
        have hle : ((ts.getD j ⟨#[]⟩).toList == (us.getD j ⟨#[]⟩).toList) = decide (ts.getD j ⟨#[]⟩ = us.getD j ⟨#[]⟩) := eqB _ _
        have hyes : Hid ((decide (ts.getD j ⟨#[]⟩ = us.getD j ⟨#[]⟩)) = true → ∀ i, i < j + 1 → ts.getD i ⟨#[]⟩ = us.getD i ⟨#[]⟩) := fun hx i hi => by
          by_cases he : i = j
          · subst he; exact of_decide_eq_true hx
          · exact HN.out i (by omega)
        have hno : Hid ((decide (ts.getD j ⟨#[]⟩ = us.getD j ⟨#[]⟩)) = false → (decide (ts = us)) = false) := fun hx => by
          rw [decide_eq_false_iff_not] at hx ⊢
          exact fun e => hx (by rw [e])
        generalize (decide (ts.getD j ⟨#[]⟩ = us.getD j ⟨#[]⟩)) = bb at *
        generalize ts.getD j ⟨#[]⟩ = SX at *
        generalize us.getD j ⟨#[]⟩ = SY at *
        clear hce hce2
        cases bb with
        | true =>
          have HY : Hid _ := hyes.out rfl
          clear hyes hno
          go_wp2_with fail
          go_region
          go_wp2
          exact ⟨⟨j + 1, by go_num, by omega, HY.out, HB.out.drew⟩, by simp [intOf]; omega⟩
        | false =>
          have HY : Hid ((decide (ts = us)) = false) := hno.out rfl
          clear hyes hno
          go_wp2_with fail
          go_region
          go_wp2
          go_ret
          exact ⟨by rw [HY.out]; rfl, HB.out.drew⟩
      · have hcl : ¬ (j : Int) < (n : Int) := by omega
        have HC : Hid ((decide (ts = us)) = true) := by
          show _ = _
          rw [decide_eq_true_eq]
          have h1 := Hn.out.1
          have h2 := Hn.out.2
          refine List.ext_getElem (by omega) fun i hi1 hi2 => ?_
          have := HN.out i (by omega)
          rw [List.getD_eq_getElem?_getD, List.getD_eq_getElem?_getD, List.getElem?_eq_getElem hi1, List.getElem?_eq_getElem hi2] at this
          exact this
        go_wp2
        go_ret
        exact ⟨by rw [HC.out]; rfl, HB.out⟩
  · have hnn : ((n : Int) != (n2 : Int)) = true := by simp; omega
    have HC : Hid ((decide (ts = us)) = false) := by
      show _ = _
      rw [decide_eq_false_iff_not]
      intro e
      have h1 := Hn.out.1
      have h2 := Hn.out.2
      rw [e] at h1
      omega
    go_enter Tryz.func36, Tryz.ntmps36
    go_wp2
    go_ret
    exact ⟨by rw [HC.out]; rfl, Below.refl _ _⟩
/-- Are two entries the same, their groups read? -/
def sameE (x y : En) (gs hs : List ByteArray) : Bool := decide (x.c = y.c) && (x.k == y.k) && decide (x.nm = y.nm) && decide (gs = hs) && (x.h.o == y.h.o) && (x.h.n == y.h.n) && (x.h.i == y.h.i) && (x.h.m == y.h.m)
set_option maxHeartbeats 6400000 in
theorem sameE_any (x y : En) (gs hs : List ByteArray) (w : World) (h1 : GRd w (gad x.g) x.g.2.1 x.g.2.2 gs) (h2 : GRd w (gad y.g) y.g.2.1 y.g.2.2 hs) :
    Calls Tryz.prog 24 #[env x, env y] w fun e w' => e = .returned (.bool (sameE x y gs hs)) ∧ Below w.heap.size w w' := by
  obtain ⟨c, k, nm, ⟨gb, gn, gq⟩, o, hn, i, m⟩ := x
  obtain ⟨c2, k2, nm2, ⟨gb2, gn2, gq2⟩, o2, hn2, i2, m2⟩ := y
  have HK : Hid (∀ w', Below w.heap.size w w' → Calls Tryz.prog 36 #[.slice (gad (gb, gn, gq)) gn gq, .slice (gad (gb2, gn2, gq2)) gn2 gq2] w' fun e w'' => e = .returned (.bool (decide (gs = hs))) ∧ Below w'.heap.size w' w'') := fun w' hb => ksame_any _ _ _ gs _ _ _ hs w' (h1.below hb) (h2.below hb)
  clear h1 h2
  show Calls Tryz.prog _ #[.agg #[.string c, .bool k, .string nm, .slice (gad (gb, gn, gq)) gn gq, .int .i64 o, .int .u64 hn, .int .i64 i, .int .u64 m], .agg #[.string c2, .bool k2, .string nm2, .slice (gad (gb2, gn2, gq2)) gn2 gq2, .int .i64 o2, .int .u64 hn2, .int .i64 i2, .int .u64 m2]] w _
  unfold sameE
  dsimp only
  have hX : EnAt ((w.alloc (.cells #[.string c, .bool k, .string nm, .slice (gad (gb, gn, gq)) gn gq, .int .i64 o, .int .u64 hn, .int .i64 i, .int .u64 m] 51)).alloc (.cells #[.string c2, .bool k2, .string nm2, .slice (gad (gb2, gn2, gq2)) gn2 gq2, .int .i64 o2, .int .u64 hn2, .int .i64 i2, .int .u64 m2] 51)) w.heap.size ⟨c, k, nm, (gb, gn, gq), ⟨o, hn, i, m⟩⟩ := push_old (push_at _ _ rfl)
  have hY : EnAt ((w.alloc (.cells #[.string c, .bool k, .string nm, .slice (gad (gb, gn, gq)) gn gq, .int .i64 o, .int .u64 hn, .int .i64 i, .int .u64 m] 51)).alloc (.cells #[.string c2, .bool k2, .string nm2, .slice (gad (gb2, gn2, gq2)) gn2 gq2, .int .i64 o2, .int .u64 hn2, .int .i64 i2, .int .u64 m2] 51)) (w.heap.size + 1) ⟨c2, k2, nm2, (gb2, gn2, gq2), ⟨o2, hn2, i2, m2⟩⟩ := push_at _ _ (by simp)
  generalize gad (gb, gn, gq) = A1 at *
  generalize gad (gb2, gn2, gq2) = A2 at *
  have e0 := eqB c c2
  have e2 := eqB nm nm2
  have cK := HK.out ((w.alloc (.cells #[.string c, .bool k, .string nm, .slice A1 gn gq, .int .i64 o, .int .u64 hn, .int .i64 i, .int .u64 m] 51)).alloc (.cells #[.string c2, .bool k2, .string nm2, .slice A2 gn2 gq2, .int .i64 o2, .int .u64 hn2, .int .i64 i2, .int .u64 m2] 51)) (below2 _ _ _)
  have HB : Hid (Below w.heap.size w ((w.alloc (.cells #[.string c, .bool k, .string nm, .slice A1 gn gq, .int .i64 o, .int .u64 hn, .int .i64 i, .int .u64 m] 51)).alloc (.cells #[.string c2, .bool k2, .string nm2, .slice A2 gn2 gq2, .int .i64 o2, .int .u64 hn2, .int .i64 i2, .int .u64 m2] 51))) := below2 _ _ _
  clear HK
  have X4 : Hid (EnAt ((w.alloc (.cells #[.string c, .bool k, .string nm, .slice A1 gn gq, .int .i64 o, .int .u64 hn, .int .i64 i, .int .u64 m] 51)).alloc (.cells #[.string c2, .bool k2, .string nm2, .slice A2 gn2 gq2, .int .i64 o2, .int .u64 hn2, .int .i64 i2, .int .u64 m2] 51)) w.heap.size ⟨c, k, nm, (gb, gn, gq), ⟨o, hn, i, m⟩⟩) := hX
  have Y4 : Hid (EnAt ((w.alloc (.cells #[.string c, .bool k, .string nm, .slice A1 gn gq, .int .i64 o, .int .u64 hn, .int .i64 i, .int .u64 m] 51)).alloc (.cells #[.string c2, .bool k2, .string nm2, .slice A2 gn2 gq2, .int .i64 o2, .int .u64 hn2, .int .i64 i2, .int .u64 m2] 51)) (w.heap.size + 1) ⟨c2, k2, nm2, (gb2, gn2, gq2), ⟨o2, hn2, i2, m2⟩⟩) := hY
  clear hX hY
  cases t0 : decide (c = c2) with
  | false =>
    rw [t0] at e0
    clear t0
    clear cK
    go_enter Tryz.func24, Tryz.ntmps24
    go_wp2
    go_ret
    exact ⟨rfl, below2 _ _ _⟩
  | true =>
    rw [t0] at e0
    clear t0
    cases t1 : (k == k2) with
    | false =>
      clear cK
      go_enter Tryz.func24, Tryz.ntmps24
      go_wp2
      go_ret
      exact ⟨rfl, below2 _ _ _⟩
    | true =>
      cases t2 : decide (nm = nm2) with
      | false =>
        rw [t2] at e2
        clear t2
        clear cK
        go_enter Tryz.func24, Tryz.ntmps24
        go_wp2
        go_ret
        exact ⟨rfl, below2 _ _ _⟩
      | true =>
        rw [t2] at e2
        clear t2
        cases t3 : decide (gs = hs) with
        | false =>
          rw [t3] at cK
          go_enter Tryz.func24, Tryz.ntmps24
          go_wp2_with (first | (go_at_call 36; refine cK.mono ?_; clear cK; rintro e w1 ⟨rfl, hb1⟩; have x4 := EnAt.carry X4.out hb1; have y4 := EnAt.carry Y4.out hb1; have p4 := x4.c4; have p5 := x4.c5; have p6 := x4.c6; have p7 := x4.c7; have q4 := y4.c4; have q5 := y4.c5; have q6 := y4.c6; have q7 := y4.c7))
          go_ret
          exact ⟨rfl, HB.out.trans (hb1.mono HB.out.size)⟩
        | true =>
          rw [t3] at cK
          cases t4 : (o == o2) with
          | false =>
            go_enter Tryz.func24, Tryz.ntmps24
            go_wp2_with (first | (go_at_call 36; refine cK.mono ?_; clear cK; rintro e w1 ⟨rfl, hb1⟩; have x4 := EnAt.carry X4.out hb1; have y4 := EnAt.carry Y4.out hb1; have p4 := x4.c4; have p5 := x4.c5; have p6 := x4.c6; have p7 := x4.c7; have q4 := y4.c4; have q5 := y4.c5; have q6 := y4.c6; have q7 := y4.c7))
            go_ret
            exact ⟨rfl, HB.out.trans (hb1.mono HB.out.size)⟩
          | true =>
            cases t5 : (hn == hn2) with
            | false =>
              go_enter Tryz.func24, Tryz.ntmps24
              go_wp2_with (first | (go_at_call 36; refine cK.mono ?_; clear cK; rintro e w1 ⟨rfl, hb1⟩; have x4 := EnAt.carry X4.out hb1; have y4 := EnAt.carry Y4.out hb1; have p4 := x4.c4; have p5 := x4.c5; have p6 := x4.c6; have p7 := x4.c7; have q4 := y4.c4; have q5 := y4.c5; have q6 := y4.c6; have q7 := y4.c7))
              go_ret
              exact ⟨rfl, HB.out.trans (hb1.mono HB.out.size)⟩
            | true =>
              cases t6 : (i == i2) with
              | false =>
                go_enter Tryz.func24, Tryz.ntmps24
                go_wp2_with (first | (go_at_call 36; refine cK.mono ?_; clear cK; rintro e w1 ⟨rfl, hb1⟩; have x4 := EnAt.carry X4.out hb1; have y4 := EnAt.carry Y4.out hb1; have p4 := x4.c4; have p5 := x4.c5; have p6 := x4.c6; have p7 := x4.c7; have q4 := y4.c4; have q5 := y4.c5; have q6 := y4.c6; have q7 := y4.c7))
                go_ret
                exact ⟨rfl, HB.out.trans (hb1.mono HB.out.size)⟩
              | true =>
                cases t7 : (m == m2) with
                | false =>
                  go_enter Tryz.func24, Tryz.ntmps24
                  go_wp2_with (first | (go_at_call 36; refine cK.mono ?_; clear cK; rintro e w1 ⟨rfl, hb1⟩; have x4 := EnAt.carry X4.out hb1; have y4 := EnAt.carry Y4.out hb1; have p4 := x4.c4; have p5 := x4.c5; have p6 := x4.c6; have p7 := x4.c7; have q4 := y4.c4; have q5 := y4.c5; have q6 := y4.c6; have q7 := y4.c7))
                  go_ret
                  exact ⟨rfl, HB.out.trans (hb1.mono HB.out.size)⟩
                | true =>
                  go_enter Tryz.func24, Tryz.ntmps24
                  go_wp2_with (first | (go_at_call 36; refine cK.mono ?_; clear cK; rintro e w1 ⟨rfl, hb1⟩; have x4 := EnAt.carry X4.out hb1; have y4 := EnAt.carry Y4.out hb1; have p4 := x4.c4; have p5 := x4.c5; have p6 := x4.c6; have p7 := x4.c7; have q4 := y4.c4; have q5 := y4.c5; have q6 := y4.c6; have q7 := y4.c7))
                  go_ret
                  exact ⟨rfl, HB.out.trans (hb1.mono HB.out.size)⟩
end Go.Proofs.YtppdopcghnfapaaGreatDoor

/- roster: what Items tells, and how many there are (pure). -/
set_option maxRecDepth 100000
namespace Go.Proofs.YtppdopcghnfapaaGreatDoor
open Go.RowKit

/-- What is kept of a contact. -/
def kvw (R : Ro) (G : ByteArray → List ByteArray) (s : ByteArray) : Option (ByteArray × Hf × List ByteArray) := (R.m s).bind fun x => if x.k = true then some (x.nm, x.h, G s) else none
def updG (G : ByteArray → List ByteArray) (c : ByteArray) (gs : List ByteArray) : ByteArray → List ByteArray := fun s => if s = c then gs else G s
theorem thr_k {x : En} (h : x.k = true) : thr x = true := by unfold thr; rw [h]; rfl
theorem layR_m (R : Ro) (x : En) : (layR R x).m = mputE R.m x.c (if thr x = true then some x else none) := by
  unfold layR
  by_cases h : thr x = true
  · rw [if_pos h, if_pos h]
  · rw [if_neg h, if_neg h]
theorem kvw_lay (R : Ro) (G : ByteArray → List ByteArray) (x : En) (gs : List ByteArray) (s : ByteArray) : kvw (layR R x) (updG G x.c gs) s = if s = x.c then (if x.k = true then some (x.nm, x.h, gs) else none) else kvw R G s := by
  unfold kvw updG
  rw [layR_m]
  by_cases hs : s = x.c
  · subst hs
    rw [mputE_same, if_pos rfl, if_pos rfl]
    by_cases hk : x.k = true
    · rw [if_pos (thr_k hk)]
      rfl
    · rw [if_neg hk]
      by_cases ht : thr x = true
      · rw [if_pos ht]; show (if x.k = true then _ else _) = _; rw [if_neg hk]
      · rw [if_neg ht]; rfl
  · rw [mputE_other _ _ hs, if_neg hs, if_neg hs]
theorem updG_id (G : ByteArray → List ByteArray) (c : ByteArray) : updG G c (G c) = G := by
  funext s
  unfold updG
  by_cases h : s = c
  · rw [if_pos h, h]
  · rw [if_neg h]
theorem kvw_ver (R : Ro) (G : ByteArray → List ByteArray) (v : Int) : kvw { R with ver := v } G = kvw R G := rfl
theorem kvw_nx (R : Ro) (G : ByteArray → List ByteArray) (v : Int) : kvw { R with nx := v } G = kvw R G := rfl
theorem kvw_lay1 (R : Ro) (G : ByteArray → List ByteArray) (x : En) (s : ByteArray) : kvw (layR R x) G s = if s = x.c then (if x.k = true then some (x.nm, x.h, G x.c) else none) else kvw R G s := by
  have := kvw_lay R G x (G x.c) s
  rw [updG_id] at this
  exact this
theorem kvw_of (R : Ro) (G : ByteArray → List ByteArray) (c : ByteArray) : kvw R G c = if (ofE R c).k = true then some ((ofE R c).nm, (ofE R c).h, G c) else none := by
  unfold kvw ofE
  cases R.m c <;> rfl
theorem hne_no {a b : Hf} (h : hne a b = false) : a = b := by
  obtain ⟨o, n, i, m⟩ := a
  obtain ⟨o', n', i', m'⟩ := b
  unfold hne at h
  simp at h
  obtain ⟨⟨⟨h1, h2⟩, h3⟩, h4⟩ := h
  subst h1 h2 h3 h4
  rfl
theorem hne_yes {a b : Hf} (h : hne a b = true) : a ≠ b := by
  intro e
  subst e
  unfold hne at h
  simp at h
/-- What a call did: the version stands and what is kept too; or it rises by one, and what is kept turned, or it counted. -/
def Moved (R : Ro) (G : ByteArray → List ByteArray) (R' : Ro) (G' : ByteArray → List ByteArray) (p : Bool) : Prop :=
  (R'.ver = R.ver ∧ kvw R' G' = kvw R G ∧ p = false) ∨ (R'.ver = R.ver + 1 ∧ (kvw R' G' ≠ kvw R G ∨ p = true))
theorem Moved.refl (R : Ro) (G : ByteArray → List ByteArray) : Moved R G R G false := Or.inl ⟨rfl, rfl, rfl⟩
/-- turn of an entry as it was. -/
theorem moved_turn (R : Ro) (G : ByteArray → List ByteArray) (c : ByteArray) (hc : (ofE R c).c = c) (h : Hf) : Moved R G (turnR R (ofE R c) h) G false := by
  unfold turnR chg
  cases hk : (ofE R c).k with
  | false =>
    rw [Bool.false_and, if_neg (by decide)]
    refine Or.inl ⟨layR_ver _ _, ?_, rfl⟩
    funext s
    rw [kvw_lay1]
    by_cases hs : s = (ofE R c).c
    · rw [if_pos hs, if_neg (fun e => by cases e), hs, hc, kvw_of, if_neg (by rw [hk]; decide)]
    · rw [if_neg hs]
  | true =>
    rw [Bool.true_and]
    cases hn : hne (ofE R c).h h with
    | true =>
      rw [if_pos rfl]
      refine Or.inr ⟨rfl, Or.inl fun e => ?_⟩
      have e1 := congrFun e c
      rw [kvw_ver, kvw_lay1, if_pos hc.symm, if_pos rfl, kvw_of, if_pos hk] at e1
      injection e1 with e1
      injection e1 with _ e1
      injection e1 with e1 _
      exact hne_yes hn e1.symm
    | false =>
      rw [if_neg (by decide)]
      refine Or.inl ⟨layR_ver _ _, ?_, rfl⟩
      funext s
      rw [kvw_lay1]
      by_cases hs : s = (ofE R c).c
      · rw [if_pos hs, if_pos rfl, hs, hc, kvw_of, if_pos hk, hne_no hn]
      · rw [if_neg hs]
/-- turn of an entry that became an item, its half another. -/
theorem moved_item (R : Ro) (G : ByteArray → List ByteArray) (c : ByteArray) (hc : (ofE R c).c = c) (h : Hf) (hn : hne (ofE R c).h h = true) : Moved R G (turnR R { ofE R c with k := true } h) G false := by
  unfold turnR chg
  rw [Bool.true_and, if_pos (by exact hn)]
  refine Or.inr ⟨rfl, Or.inl fun e => ?_⟩
  have e1 := congrFun e c
  rw [kvw_ver, kvw_lay1, if_pos hc.symm, if_pos rfl, kvw_of] at e1
  by_cases hk : (ofE R c).k = true
  · rw [if_pos hk] at e1
    injection e1 with e1
    injection e1 with _ e1
    injection e1 with e1 _
    exact hne_yes hn e1.symm
  · rw [if_neg hk] at e1
    cases e1
theorem moved_drop (R : Ro) (G : ByteArray → List ByteArray) (c : ByteArray) : Moved R G (dropP R c).2.2 G false := by
  unfold dropP
  by_cases hk : (ofE R c).k = true
  · rw [if_pos hk]
    refine Or.inr ⟨rfl, Or.inl fun e => ?_⟩
    have e1 := congrFun e c
    rw [kvw_ver, kvw_lay1, if_pos (show c = (en0 c).c from rfl), if_neg (show ¬ (en0 c).k = true from fun e => by cases e), kvw_of, if_pos hk] at e1
    cases e1
  · rw [if_neg hk]
    exact Moved.refl R G
end Go.Proofs.YtppdopcghnfapaaGreatDoor

/- roster: Act, Hear, Drop, Put: what they turn (pure). -/
set_option maxRecDepth 100000
namespace Go.Proofs.YtppdopcghnfapaaGreatDoor
open Go.RowKit

theorem actA_half {h : Hf} {kind x : Int} (hk : kind = 11 ∨ kind = 12) (h0 : (actA h kind x).2 = 0) (h1 : (actA h kind x).1.2.1 ≠ 0) : hne h (actA h kind x).1.1 = true := by
  unfold actA at *
  by_cases ho : okH h = true
  · rw [if_pos ho] at *
    unfold actH at *
    rcases hk with rfl | rfl
    · rw [if_pos rfl] at *
      by_cases hx : x = 0
      · rw [if_pos hx] at h0; cases h0
      · rw [if_neg hx] at *
        dsimp only at *
        unfold askH at *
        by_cases h2 : h.o = 0
        · rw [if_pos h2] at *
          unfold hne
          simp [h2]
        · rw [if_neg h2] at h1; exact absurd rfl h1
    · rw [if_neg (by decide), if_pos rfl] at *
      dsimp only at *
      unfold grantH at *
      by_cases h2 : h.i = 1
      · rw [if_pos h2] at *
        unfold hne
        simp [h2]
      · rw [if_neg h2] at h1; exact absurd rfl h1
  · rw [if_neg ho] at h0; cases h0
theorem moved_act (R : Ro) (G : ByteArray → List ByteArray) (hc : ∀ c, (ofE R c).c = c) (c : ByteArray) (kind : Int) : Moved R G (actP R c kind).2.2 G false := by
  unfold actP
  by_cases h0 : (actA (ofE R c).h kind (R.nx + 1)).2 ≠ 0
  · rw [if_pos h0]; exact Moved.refl R G
  · rw [if_neg h0]
    have h0 : (actA (ofE R c).h kind (R.nx + 1)).2 = 0 := Decidable.not_not.1 h0
    by_cases h1 : (actA (ofE R c).h kind (R.nx + 1)).1.2.1 = 0
    · rw [if_pos h1]; exact Moved.refl R G
    · rw [if_neg h1]
      by_cases h2 : kind = 11
      · rw [if_pos h2]
        by_cases h3 : roomB R (ofE R c) = true
        · rw [if_pos h3]
          have := moved_item { R with nx := R.nx + 1 } G c (hc c) (actA (ofE R c).h kind (R.nx + 1)).1.1 (actA_half (Or.inl h2) h0 h1)
          exact this
        · rw [if_neg h3]; exact Moved.refl R G
      · rw [if_neg h2]
        by_cases h4 : kind = 12
        · rw [if_pos h4]
          by_cases h3 : roomB R (ofE R c) = true
          · rw [if_pos h3]
            exact moved_item R G c (hc c) _ (actA_half (Or.inr h4) h0 h1)
          · rw [if_neg h3]; exact Moved.refl R G
        · rw [if_neg h4]
          exact moved_turn R G c (hc c) _
theorem moved_actS (R : Ro) (G : ByteArray → List ByteArray) (hc : ∀ c, (ofE R c).c = c) (s : ByteArray) (kind : Int) : Moved R G (actS R s kind).2.2 G false := by
  unfold actS
  split
  · exact moved_act R G hc _ kind
  · exact Moved.refl R G
theorem moved_hear (R : Ro) (G : ByteArray → List ByteArray) (hc : ∀ c, (ofE R c).c = c) (c : ByteArray) (mail n : Int) : Moved R G (hearP R c mail n).2.2 G false := by
  unfold hearP
  split
  · exact Moved.refl R G
  · split
    · exact Moved.refl R G
    · exact moved_turn R G c (hc c) _
theorem moved_hearS (R : Ro) (G : ByteArray → List ByteArray) (hc : ∀ c, (ofE R c).c = c) (s : ByteArray) (mail n : Int) : Moved R G (hearS R s mail n).2.2 G false := by
  unfold hearS
  split
  · exact moved_hear R G hc _ mail n
  · exact Moved.refl R G
theorem moved_dropS (R : Ro) (G : ByteArray → List ByteArray) (s : ByteArray) : Moved R G (dropS R s).2.2 G false := by
  unfold dropS
  split
  · exact moved_drop R G _
  · exact Moved.refl R G
theorem moved_put (R : Ro) (G : ByteArray → List ByteArray) (c nm : ByteArray) (g : Gr) (gs : List ByteArray) : Moved R G { layR R (putN R c nm g) with ver := R.ver + 1 } (updG G c gs) true := Or.inr ⟨rfl, Or.inr rfl⟩
end Go.Proofs.YtppdopcghnfapaaGreatDoor

/- roster: no more items and requests than there may be (pure). -/
set_option maxRecDepth 100000
namespace Go.Proofs.YtppdopcghnfapaaGreatDoor
open Go.RowKit

def kb (R : Ro) (s : ByteArray) : Bool := ((R.m s).map (·.k)).getD false
/-- What a roster always keeps to. -/
structure RB (R : Ro) : Prop where
  kc : R.kept = (R.ks.countP (kb R) : Int)
  it : R.kept ≤ R.it
  ak : (R.ks.countP (fun s => !kb R s) : Int) ≤ R.ak
  nd : R.ks.Nodup
  mem : ∀ s, (R.m s).isSome = true ↔ s ∈ R.ks
  ent : ∀ s x, R.m s = some x → x.c = s ∧ thr x = true
open Classical in
theorem cnt_sub (p : ByteArray → Bool) (c : ByteArray) : ∀ ks : List ByteArray, ks.Nodup → ks.countP p = (subK ks c).countP p + if c ∈ ks ∧ p c = true then 1 else 0
  | [], _ => by simp [subK]
  | a :: r, h => by
    rw [List.nodup_cons] at h
    have ih := cnt_sub p c r h.2
    by_cases ha : a = c
    · subst ha
      have e : subK (a :: r) a = r := by
        unfold subK
        rw [List.filter_cons_of_neg (by simp), List.filter_eq_self]
        intro b hb
        have : b ≠ a := fun e => h.1 (by rw [← e]; exact hb)
        simp [this]
      rw [e, List.countP_cons]
      by_cases hp : p a = true
      · simp [hp]
      · simp [hp]
    · have e : subK (a :: r) c = a :: subK r c := by
        unfold subK
        rw [List.filter_cons_of_pos (by simp [ha])]
      rw [e, List.countP_cons, List.countP_cons, ih]
      have hm : (c ∈ a :: r ∧ p c = true) ↔ (c ∈ r ∧ p c = true) := by
        rw [List.mem_cons]
        exact ⟨fun h => ⟨h.1.resolve_left (fun e => ha e.symm), h.2⟩, fun h => ⟨Or.inr h.1, h.2⟩⟩
      by_cases hq : c ∈ r ∧ p c = true
      · rw [if_pos hq, if_pos (hm.2 hq)]; omega
      · rw [if_neg hq, if_neg (fun h => hq (hm.1 h))]; omega
theorem cnt_off {p q : ByteArray → Bool} {c : ByteArray} {ks : List ByteArray} (h : ∀ s, s ≠ c → p s = q s) : (subK ks c).countP p = (subK ks c).countP q :=
  List.countP_congr (fun a ha => by rw [h a (subK_mem.1 ha).2])
theorem wasK_kb (R : Ro) (c : ByteArray) : wasK R c = kb R c := by
  unfold wasK kb
  cases R.m c <;> rfl
theorem kb_mem {R : Ro} (h : RB R) {c : ByteArray} (hk : kb R c = true) : c ∈ R.ks := by
  rw [← h.mem]
  unfold kb at hk
  cases hm : R.m c with
  | none => rw [hm] at hk; cases hk
  | some x => rfl
theorem ofE_kb (R : Ro) (c : ByteArray) : (ofE R c).k = kb R c := by
  unfold ofE kb
  cases R.m c <;> rfl
theorem kb_lay (R : Ro) (x : En) (s : ByteArray) : kb (layR R x) s = if s = x.c then x.k else kb R s := by
  unfold kb
  rw [layR_m]
  by_cases hs : s = x.c
  · subst hs
    rw [mputE_same, if_pos rfl]
    by_cases ht : thr x = true
    · rw [if_pos ht]; rfl
    · rw [if_neg ht]
      have : x.k = false := by
        cases hk : x.k with
        | false => rfl
        | true => exact absurd (thr_k hk) ht
      rw [this]; rfl
  · rw [mputE_other _ _ hs, if_neg hs]
/-- How many are kept beside this one; how many ask beside it. -/
def othK (R : Ro) (c : ByteArray) : Nat := (subK R.ks c).countP (kb R)
def othA (R : Ro) (c : ByteArray) : Nat := (subK R.ks c).countP (fun s => !kb R s)
open Classical in
theorem RB.kept_oth {R : Ro} (h : RB R) (c : ByteArray) : R.kept = (othK R c : Int) + if kb R c = true then 1 else 0 := by
  rw [h.kc, cnt_sub (kb R) c R.ks h.nd]
  unfold othK
  by_cases hk : kb R c = true
  · rw [if_pos ⟨kb_mem h hk, hk⟩, if_pos hk]; omega
  · rw [if_neg (fun e => hk e.2), if_neg hk]; omega
open Classical in
theorem RB.asks_oth {R : Ro} (h : RB R) (c : ByteArray) : (R.ks.countP (fun s => !kb R s) : Int) = (othA R c : Int) + if c ∈ R.ks ∧ kb R c = false then 1 else 0 := by
  rw [cnt_sub (fun s => !kb R s) c R.ks h.nd]
  unfold othA
  by_cases hk : c ∈ R.ks ∧ kb R c = false
  · rw [if_pos ⟨hk.1, by rw [hk.2]; rfl⟩, if_pos hk]; omega
  · rw [if_neg (fun e => hk ⟨e.1, by have := e.2; cases hb : kb R c with | false => rfl | true => rw [hb] at this; cases this⟩), if_neg hk]; omega
open Classical in
theorem rb_lay {R : Ro} (h : RB R) (x : En) (h1 : x.k = true → (othK R x.c : Int) + 1 ≤ R.it) (h2 : x.k = false → thr x = true → (othA R x.c : Int) + 1 ≤ R.ak) : RB (layR R x) := by
  have e0 := h.kept_oth x.c
  have e1 := h.asks_oth x.c
  have hkB : keptB R x.c = othK R x.c := by
    unfold keptB
    rw [wasK_kb]
    by_cases hk : kb R x.c = true
    · rw [if_pos hk] at e0 ⊢; omega
    · rw [if_neg hk] at e0 ⊢; omega
  have hoK : (othK R x.c : Int) ≤ R.it := by
    have := h.it
    by_cases hk : kb R x.c = true
    · rw [if_pos hk] at e0; omega
    · rw [if_neg hk] at e0; omega
  have hoA : (othA R x.c : Int) ≤ R.ak := by
    have := h.ak
    by_cases hk : x.c ∈ R.ks ∧ kb R x.c = false
    · rw [if_pos hk] at e1; omega
    · rw [if_neg hk] at e1; omega
  have c1 : (subK R.ks x.c).countP (kb (layR R x)) = othK R x.c := cnt_off (fun s hs => by rw [kb_lay, if_neg hs])
  have c2 : (subK R.ks x.c).countP (fun s => !kb (layR R x) s) = othA R x.c := cnt_off (fun s hs => by rw [kb_lay, if_neg hs])
  have ck : kb (layR R x) x.c = x.k := by rw [kb_lay, if_pos rfl]
  have hent : ∀ s y, (layR R x).m s = some y → y.c = s ∧ thr y = true := by
    intro s y hy
    rw [layR_m] at hy
    by_cases hs : s = x.c
    · subst hs
      rw [mputE_same] at hy
      by_cases ht : thr x = true
      · rw [if_pos ht] at hy; injection hy with hy; subst hy; exact ⟨rfl, ht⟩
      · rw [if_neg ht] at hy; cases hy
    · rw [mputE_other _ _ hs] at hy
      exact h.ent s y hy
  by_cases ht : thr x = true
  · have eL : layR R x = { R with m := mputE R.m x.c (some x), ks := addK R.ks x.c, kept := if x.k then keptB R x.c + 1 else keptB R x.c } := by unfold layR; rw [if_pos ht]
    have eks : (layR R x).ks = x.c :: subK R.ks x.c := by rw [eL]; rfl
    have ekp : (layR R x).kept = if x.k then keptB R x.c + 1 else keptB R x.c := by rw [eL]
    have eit : (layR R x).it = R.it ∧ (layR R x).ak = R.ak := by rw [eL]; exact ⟨rfl, rfl⟩
    refine ⟨?_, ?_, ?_, ?_, ?_, hent⟩
    · rw [ekp, eks, List.countP_cons, c1, ck, hkB]
      cases hx : x.k <;> simp
    · rw [ekp, eit.1, hkB]
      cases hx : x.k with
      | false => simpa using hoK
      | true => simpa using h1 hx
    · rw [eks, List.countP_cons, c2, ck, eit.2]
      cases hx : x.k with
      | false => simpa using h2 hx ht
      | true => simpa using hoA
    · rw [eks]; exact addK_nd h.nd
    · intro s
      rw [layR_m, if_pos ht, eks]
      by_cases hs : s = x.c
      · subst hs; rw [mputE_same]; simp
      · rw [mputE_other _ _ hs, h.mem, List.mem_cons, subK_mem]; simp [hs]
  · have eL : layR R x = { R with m := mputE R.m x.c none, ks := subK R.ks x.c, kept := keptB R x.c } := by unfold layR; rw [if_neg ht]
    have eks : (layR R x).ks = subK R.ks x.c := by rw [eL]
    have ekp : (layR R x).kept = keptB R x.c := by rw [eL]
    have eit : (layR R x).it = R.it ∧ (layR R x).ak = R.ak := by rw [eL]; exact ⟨rfl, rfl⟩
    refine ⟨?_, ?_, ?_, ?_, ?_, hent⟩
    · rw [ekp, eks, c1, hkB]
    · rw [ekp, eit.1, hkB]; exact hoK
    · rw [eks, c2, eit.2]; exact hoA
    · rw [eks]; exact subK_nd h.nd
    · intro s
      rw [layR_m, if_neg ht, eks]
      by_cases hs : s = x.c
      · subst hs; rw [mputE_same, subK_mem]; simp
      · rw [mputE_other _ _ hs, h.mem, subK_mem]; simp [hs]
end Go.Proofs.YtppdopcghnfapaaGreatDoor
