/- lease: Drop and Due. -/
import Derived.Test.YtfakcjelibdnbaaHpG
namespace Go.Proofs.Ytfakcjelibdnbaa
open Go.RowKit Go.Joins

/-- The same, and what it lies in is no more than it was. -/
def Dl (w w' : World) (F : Nat → Prop) (q tn : Nat) (L : Le) : Prop := ∃ F', HAt w' F' q tn L ∧ (∀ x, F' x → F x) ∧ Keep F w w'
theorem Dl.dn {w w' : World} {F : Nat → Prop} {q tn : Nat} {L : Le} (h : Dl w w' F q tn L) : Dn w w' F q tn L := by
  obtain ⟨F', h1, h2, h3⟩ := h
  exact ⟨F', h1, fun x hx => .inl (h2 x hx), h3⟩

theorem remDl {w w1 w2 : World} {F : Nat → Prop} {q tn : Nat} {E : List El} {mb b n c N i : Nat} {d d' : Nat → El} (h : HI w F q tn E mb (some b) (n + 1) c N d) (hP : HRemP q mb tn b n c i d w w1 d')
    (hM : PMap w2 mb N (mputP (mOf E) (d i).k none)) (hk : Keep (fun k => k = mb) w1 w2) : Dl w w2 F q tn (drp (abs E) (d i).k) := by
  have hmbq : mb ≠ q := Ne.symm (h.mp.notCells h.gp.hb)
  have sub : ∀ k, OF (some b) n d' k → OF (some b) (n + 1) d k := fun k hk2 => by
    rcases hk2 with e | ⟨j, hj, e⟩
    · exact .inl e
    · exact (hP.sw.of (Nat.le_refl _)).1 (.inr ⟨j, by omega, e⟩)
  have nmb : ∀ k, OF (some b) (n + 1) d k → k ≠ mb := fun k hk2 => by
    rcases hk2 with e | ⟨j, hj, e⟩
    · obtain ⟨cur, g1, _⟩ := h.gp.od.row k e
      exact h.mp.notCells g1
    · rw [← e]; exact h.mp.notCells (h.gp.od.ls j hj)
  have fmb : F mb := (h.fp mb).2 (.inr (.inl rfl))
  have lv := (h.lv.sws hP.sw).rem (hP.sw.inj (Nat.le_refl _) h.gp.od.inj)
  rw [hP.at'] at lv
  refine ⟨fun k => k = q ∨ k = mb ∨ OF (some b) n d' k, ⟨oth E (d i).k, mb, some b, n, c, N, d', ⟨hP.gp.keep hk (fun k hk2 e => ?_), lv, PMap.ext hM (fun s => (mOf_oth E (d i).k s).symm), h.nt, fun k => Iff.rfl⟩, (abs_oth _ _).symm⟩, fun x hx => ?_, ?_⟩
  · rcases hk2 with e2 | e2
    · exact hmbq (e.symm.trans e2)
    · exact nmb k (sub k e2) e
  · rcases hx with e | e | e
    · exact (h.fp x).2 (.inl e)
    · exact (h.fp x).2 (.inr (.inl e))
    · exact (h.fp x).2 (.inr (.inr (sub x e)))
  · refine (hP.kp.mono (fun k hk2 => ?_)).trans (hk.mono fun k e => e ▸ fmb)
    rcases hk2 with e | e
    · exact (h.fp k).2 (.inl e)
    · exact (h.fp k).2 (.inr (.inr e))

theorem drop_no {w : World} {F : Nat → Prop} {q tn : Nat} {E : List El} {mb : Nat} {g : Option Nat} {n c N : Nat} {d : Nat → El} (h : HI w F q tn E mb g n c N d) (k : ByteArray) (hks : k.size ≤ 1000000) (hk : ∀ x ∈ E, x.k ≠ k) :
    Calls Try.prog 25 #[.pointer (some ⟨q, 0, none⟩), .string k] w fun r w' => r = .returned (.bool false) ∧ w' = w := by
  have c0 := h.gp.hb.c0
  have hl := h.mp.look k (by unfold maxLen; omega)
  rw [mOf_none hk] at hl
  unfold ptrO at hl
  clear h hk
  go_enter Try.func25, Try.ntmps25
  go_wp2
  go_ret
  exact ⟨rfl, rfl⟩

set_option maxHeartbeats 2000000 in
theorem drop_yes {w : World} {F : Nat → Prop} {q tn : Nat} {E : List El} {mb b n c N : Nat} {d : Nat → El} (h : HI w F q tn E mb (some b) (n + 1) c N d) {i : Nat} (hi : i ≤ n) (hks : (d i).k.size ≤ 1000000) :
    Calls Try.prog 25 #[.pointer (some ⟨q, 0, none⟩), .string (d i).k] w fun r w' => r = .returned (.bool true) ∧ Dl w w' F q tn (drp (abs E) (d i).k) := by
  have c0 := h.gp.hb.c0
  have li := h.gp.od.ls i (by omega)
  have hl := h.mp.look (d i).k (by unfold maxLen; omega)
  rw [mOf_some h.lv.kys ((h.lv.mem _).2 ⟨i, by omega, rfl⟩)] at hl
  unfold ptrO at hl
  have l3 := li.c3
  have H : Hid (HI w F q tn E mb (some b) (n + 1) c N d) := h
  clear h li
  go_enter Try.func25, Try.ntmps25
  go_upto_region 4 with fail
  clear hl c0
  refine wp_region_lx (fun _ => True) [] 9 (by kernel_rfl) (by kernel_rfl) ?_
  have HS : True := trivial
  have l3' : w.drew.cell? ⟨(d i).b, 3, none⟩ = some (.int .i64 i) := l3
  have hw1 : HI w.drew F q tn E mb (some b) (n + 1) c N d := H.out.keep (S := fun _ => False) (Keep.refl _ _).drew (fun _ _ h => h)
  have HK0 : Hid (Keep F w w.drew) := (Keep.refl _ _).drew
  clear l3
  generalize w.drew = W at *
  refine lx_rd 0 ?vR0 (by kernel_rfl) (fun _ _ d _ _ h => by cases d <;> exact h) (by kernel_rfl) HS rfl rfl rfl (fun w' hS => ?hR0) ?_
  case hR0 => first | (go_simp; rfl) | go_simp
  simp only [List.setIfInBounds_toArray, List.set_cons_zero, List.set_cons_succ]
  refine lx_rd 1 ?vR1 (by kernel_rfl) (fun _ _ d _ _ h => by cases d <;> exact h) (by kernel_rfl) HS rfl rfl rfl (fun w' hS => ?hR1) ?_
  case hR1 => first | (go_simp; rfl) | go_simp
  simp only [List.setIfInBounds_toArray, List.set_cons_zero, List.set_cons_succ]
  refine lx_rd 2 ?vR2 (by kernel_rfl) (fun _ _ d _ _ h => by cases d <;> exact h) (by kernel_rfl) HS rfl rfl rfl (fun w' hS => ?hR2) ?_
  case hR2 => first | (go_simp; rfl) | go_simp
  simp only [List.setIfInBounds_toArray, List.set_cons_zero, List.set_cons_succ]
  refine lx_rd 3 ?vR3 (by kernel_rfl) (fun _ _ d _ _ h => by cases d <;> exact h) (by kernel_rfl) HS rfl rfl rfl (fun w' hS => ?hR3) ?_
  case hR3 => first | (go_simp; rfl) | go_simp
  simp only [List.setIfInBounds_toArray, List.set_cons_zero, List.set_cons_succ]
  refine lx_rd 4 ?vR4 (by kernel_rfl) (fun _ _ d _ _ h => by cases d <;> exact h) (by kernel_rfl) HS rfl rfl rfl (fun w' hS => ?hR4) ?_
  case hR4 => first | (go_simp; rfl) | go_simp
  simp only [List.setIfInBounds_toArray, List.set_cons_zero, List.set_cons_succ]
  refine lx_rd 5 ?vR5 (by kernel_rfl) (fun _ _ d _ _ h => by cases d <;> exact h) (by kernel_rfl) HS rfl rfl rfl (fun w' hS => ?hR5) ?_
  case hR5 => first | (go_simp; rfl) | go_simp
  simp only [List.setIfInBounds_toArray, List.set_cons_zero, List.set_cons_succ]
  refine lx_rd 6 ?vR6 (by kernel_rfl) (fun _ _ d _ _ h => by cases d <;> exact h) (by kernel_rfl) HS rfl rfl rfl (fun w' hS => ?hR6) ?_
  case hR6 => first | (go_simp; rfl) | go_simp
  simp only [List.setIfInBounds_toArray, List.set_cons_zero, List.set_cons_succ]
  refine lx_one 7 (by kernel_rfl) (stepT_val (w' := W) (.int .i64 i) rfl rfl rfl ?r7 (fun _ => trivial) ?_)
  case r7 => first | (go_simp; rfl) | go_simp
  simp only [List.setIfInBounds_toArray, List.set_cons_zero, List.set_cons_succ]
  refine lx_one 8 (by kernel_rfl) (stepT_call 39 ?aR8 rfl rfl rfl ?rR8 ?_)
  case rR8 => first | (go_simp; rfl) | go_simp
  refine (hrem_any q mb b n c tn i d W hw1.gp hi).mono ?_
  rintro r w5 ⟨rfl, d', hP⟩
  refine ⟨_, rfl, fun _ => trivial, ?_⟩
  simp only [List.setIfInBounds_toArray, List.set_cons_zero, List.set_cons_succ]
  refine lx_nil (by kernel_rfl) ?_
  have c5 := hP.gp.hb.c0
  have hM5 : PMap w5 mb N (mOf E) := hw1.mp.keep hP.kp (fun hk2 => by
    rcases hk2 with e | e | ⟨j, hj, e⟩
    · exact hw1.mp.notCells hw1.gp.hb e.symm
    · obtain ⟨cur, g1, _⟩ := hw1.gp.od.row mb e
      exact hw1.mp.notCells g1 rfl
    · exact hw1.mp.notCells (hw1.gp.od.ls j hj) e)
  have HP : Hid (HRemP q mb tn b n c i d W w5 d') := hP
  obtain ⟨w6, hr6, hM6, hk6⟩ := hM5.drop (d i).k (by unfold maxLen; omega) 0
  have HM : Hid (PMap w6 mb N (mputP (mOf E) (d i).k none)) := hM6
  have H1 : Hid (HI W F q tn E mb (some b) (n + 1) c N d) := hw1
  clear hP hM5 hM6 hw1 l3' H
  go_wp2
  go_ret
  obtain ⟨F', g1, g2, g3⟩ := remDl H1.out HP.out HM.out hk6
  exact ⟨rfl, F', g1, g2, HK0.out.trans g3⟩

theorem drop_any {w : World} {F : Nat → Prop} {q tn : Nat} {L : Le} (h : HAt w F q tn L) (k : ByteArray) (hks : k.size ≤ 1000000) :
    Calls Try.prog 25 #[.pointer (some ⟨q, 0, none⟩), .string k] w fun r w' => r = .returned (.bool (lk L k).isSome) ∧ Dl w w' F q tn (drp L k) := by
  have h0 := h
  obtain ⟨E, mb, g, n, c, N, d, h, rfl⟩ := h
  by_cases hk : ∃ x ∈ E, x.k = k
  · obtain ⟨x, hx, rfl⟩ := hk
    rw [lk_abs h.lv.kys hx]
    obtain ⟨i, hi, rfl⟩ := (h.lv.mem x).1 hx
    obtain ⟨b, rfl⟩ := h.gp.od.has (by omega)
    obtain ⟨n', rfl⟩ : ∃ n', n = n' + 1 := ⟨n - 1, by omega⟩
    exact drop_yes h (by omega) hks
  · have hk2 : ∀ x ∈ E, x.k ≠ k := fun x hx e => hk ⟨x, hx, e⟩
    have hk3 : ∀ p ∈ abs E, p.1 ≠ k := fun p hp e => by
      obtain ⟨x, hx, rfl⟩ := List.mem_map.1 hp
      exact hk2 x hx e
    rw [lk_none hk3, drp_none hk3]
    refine (drop_no h k hks hk2).mono ?_
    rintro r w' ⟨rfl, rfl⟩
    exact ⟨rfl, F, h0, fun _ h => h, Keep.refl _ _⟩

end Go.Proofs.Ytfakcjelibdnbaa
