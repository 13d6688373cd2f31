/-
  What the specification's l2Copy and l2Flush return: the lines, and the lines with one of them sent, in new memory; nothing that was there is written.
-/
import Derived.Test.YtgpmpijaggnocaaFlush2
import Derived.Test.YtgpmpijaggnocaaDev5
namespace Go.Proofs.Ytgpmpijaggnocaa.dev
open Go.RowKit Go.Maps
open later

theorem Lines.lt {w : World} {g : Nat} {ls : List Ln} (h : Lines w (some ⟨g, 0, none⟩) ls) (h0 : 0 < ls.length) : g < w.heap.size := by
  obtain ⟨b, off, e, c0, _⟩ := h 0 h0
  have := World.block_lt_of_cell? w _ c0
  simp at e
  obtain ⟨rfl, rfl⟩ := e
  exact this
theorem lines_cells {w : World} {g off : Nat} {ls : List Ln} (h : Lines w (some ⟨g, off, none⟩) ls) : ∀ j u, (cellsOfLines ls)[j]? = some u → w.cell? ((⟨g, off, none⟩ : Addr).add j) = some u := by
  intro j u hj
  have hadd : (⟨g, off, none⟩ : Addr).add j = ⟨g, off + j, none⟩ := by unfold Addr.add; split <;> simp_all
  rw [hadd]
  have hlt : j < (cellsOfLines ls).length := by
    rcases Nat.lt_or_ge j (cellsOfLines ls).length with q | q
    · exact q
    · rw [List.getElem?_eq_none q] at hj; cases hj
  rw [cellsOfLines_len] at hlt
  have hi : j / 3 < ls.length := by omega
  obtain ⟨b, o, e, c0, c1, c2⟩ := h (j / 3) hi
  simp at e
  obtain ⟨rfl, rfl⟩ := e
  obtain ⟨d0, d1, d2⟩ := cellsOfLines_at ls (j / 3) hi
  have hc : j = j / 3 * 3 ∨ j = j / 3 * 3 + 1 ∨ j = j / 3 * 3 + 2 := by omega
  rcases hc with q | q | q
  · have e1 : off + j = off + j / 3 * 3 := by omega
    rw [e1]
    rw [q, d0] at hj; cases hj; exact c0
  · have e1 : off + j = off + j / 3 * 3 + 1 := by omega
    rw [e1]
    rw [q, d1] at hj; cases hj; exact c1
  · have e1 : off + j = off + j / 3 * 3 + 2 := by omega
    rw [e1]
    rw [q, d2] at hj; cases hj; exact c2
theorem cells_one (ls : List Ln) : ∀ u ∈ cellsOfLines ls, u.oneCell' = true := by
  intro u hu
  unfold cellsOfLines at hu
  rw [List.mem_flatMap] at hu
  obtain ⟨l, _, hl⟩ := hu
  simp at hl
  rcases hl with rfl | rfl | rfl <;> rfl
/-- One line's last cell, written. -/
theorem lines_sent {w : World} {g : Nat} {ls : List Ln} (h : Lines w (some ⟨g, 0, none⟩) ls) (k : Nat) (hk : k < ls.length) (s : ByteArray) :
    Lines (w.setCell ⟨g, k * 3 + 2, none⟩ (.string s)) (some ⟨g, 0, none⟩) (ls.set k ⟨ls[k].place, ls[k].data, s⟩) := by
  intro i hi
  rw [List.length_set] at hi
  obtain ⟨b, o, e, c0, c1, c2⟩ := h i hi
  simp at e
  obtain ⟨rfl, rfl⟩ := e
  have hne : ∀ x y : Nat, x ≠ y → (⟨g, x, none⟩ : Addr) ≠ ⟨g, y, none⟩ := fun x y hxy q => by have := congrArg Addr.off q; simp at this; omega
  have oth : ∀ x, x ≠ k * 3 + 2 → (w.setCell ⟨g, k * 3 + 2, none⟩ (.string s)).cell? ⟨g, x, none⟩ = w.cell? ⟨g, x, none⟩ := fun x hx =>
    World.cell?_setCell_other _ _ _ _ (by first | exact hne _ _ hx | exact hne _ _ (Ne.symm hx))
  refine ⟨g, 0, rfl, ?_, ?_, ?_⟩
  · rw [oth _ (by omega), c0]
    by_cases q : k = i
    · subst q; simp
    · simp [List.getElem_set_ne q]
  · rw [oth _ (by omega), c1]
    by_cases q : k = i
    · subst q; simp
    · simp [List.getElem_set_ne q]
  · by_cases q : k = i
    · subst q
      rw [show 0 + k * 3 + 2 = k * 3 + 2 by omega] at c2 ⊢
      rw [World.cell?_setCell_same _ _ _ c2]
      simp
    · rw [oth _ (by omega), c2]
      simp [List.getElem_set_ne q]

theorem append_no (w : World) (g : Nat) (a : Option Addr) (cap : Nat) : (Builtin.append_ #[24, 24] 24 #[.slice (some ⟨g, 0, none⟩) 0 0, .slice a 0 cap]).run Try.prog w = .ok (.slice (some ⟨g, 0, none⟩) 0 0) w := by
  cases a <;> kernel_rfl
theorem l2Copy_none (w : World) (safe : ByteArray) (a : Option Addr) (cap : Nat) :
    Calls Try.prog 64 #[.agg #[.string safe, .slice a 0 cap]] w fun e w' => ∃ g cp, e = .returned (.agg #[.string safe, .slice (some ⟨g, 0, none⟩) 0 cp]) ∧ w'.ownsRow w.heap.size 46 3 (.slice (some ⟨g, 0, none⟩) 0 cp) 0 [] ∧ Below w.heap.size w w' := by
  obtain ⟨W, hW⟩ : ∃ W, W = start w safe (.slice a 0 cap) := ⟨_, rfl⟩
  have HS : Hid (Start w W safe (.slice a 0 cap)) := by rw [hW]; exact start_is _ _ _
  have HW : Hid (W = (w.alloc (.cells #[.string safe, .slice a 0 cap] 26)).alloc (.cells #[.string ⟨#[]⟩, .slice none 0 0] 26)) := hW
  clear hW
  have HBd : Hid (Below W.heap.size W W.drew) := (Below.refl _ _).drew
  clear HBd
  have HNN : Hid (∀ x y z : Value, ((((w.alloc (.cells #[.string safe, x] 26)).alloc (.cells #[y, z] 26)).alloc (.cells #[] 46)).drew).ownsRow w.heap.size 46 3 (.slice (some ⟨w.heap.size + 1 + 1, 0, none⟩) 0 0) 0 []) := fun x y z =>
    ⟨rfl, .inr ⟨w.heap.size + 1 + 1, 0, #[], rfl, by omega, by
      have := heap_alloc_new ((w.alloc (.cells #[.string safe, x] 26)).alloc (.cells #[y, z] 26)) (.cells #[] 46)
      simp only [World.size_alloc] at this
      exact this, Nat.le_refl _, Nat.zero_le _, rfl, rfl⟩⟩
  cases a with
  | none =>
    go_enter Try.func64, Try.ntmps64
    go_wp2
    go_region
    all_goals
      go_wp2
      refine bodyPost_ret (v := .agg #[.string safe, .slice (some ⟨w.heap.size + 1 + 1, 0, none⟩) 0 0]) (by simp [results, Try.results64, go_sem]) rfl ?_
      exact ⟨_, _, rfl, HNN.out _ _ _, by go_grown⟩
  | some a =>
    go_enter Try.func64, Try.ntmps64
    go_wp2
    go_region
    all_goals
      go_wp2
      refine bodyPost_ret (v := .agg #[.string safe, .slice (some ⟨w.heap.size + 1 + 1, 0, none⟩) 0 0]) (by simp [results, Try.results64, go_sem]) rfl ?_
      exact ⟨_, _, rfl, HNN.out _ _ _, by go_grown⟩
set_option maxHeartbeats 4000000 in
theorem l2Copy_any (w : World) (safe : ByteArray) (a : Option Addr) (cap : Nat) (ls : List Ln) (hn : ls.length ≤ 1048576) (hl : Lines w a ls) :
    Calls Try.prog 64 #[.agg #[.string safe, .slice a ls.length cap]] w fun e w' => ∃ g cp, e = .returned (.agg #[.string safe, .slice (some ⟨g, 0, none⟩) ls.length cp]) ∧ w'.ownsRow w.heap.size 46 3 (.slice (some ⟨g, 0, none⟩) ls.length cp) ls.length (cellsOfLines ls) ∧ Below w.heap.size w w' := by
  by_cases h0 : ls.length = 0
  · obtain rfl := List.length_eq_zero_iff.1 h0
    exact l2Copy_none w safe a cap
  obtain ⟨i0, hi, hzz⟩ := Option.map_eq_some_iff.1 infoLine
  simp only [Prod.mk.injEq] at hzz
  obtain ⟨hz0, hz1, hz2⟩ := hzz
  obtain ⟨W, hW⟩ : ∃ W, W = start w safe (.slice a ls.length cap) := ⟨_, rfl⟩
  have HS : Hid (Start w W safe (.slice a ls.length cap)) := by rw [hW]; exact start_is _ _ _
  have HW : Hid (W = (w.alloc (.cells #[.string safe, .slice a ls.length cap] 26)).alloc (.cells #[.string ⟨#[]⟩, .slice none 0 0] 26)) := hW
  clear hW
  have HBd : Hid (Below W.heap.size W W.drew) := (Below.refl _ _).drew
  have HBX : Hid (Below W.heap.size W (W.alloc (.cells #[] 46)).drew) := ((Below.refl _ _).alloc (Nat.le_refl _) _).drew
  have HOX : Hid ((W.alloc (.cells #[] 46)).drew.ownsRow W.heap.size 46 3 (.slice (some ⟨W.heap.size, 0, none⟩) 0 0) 0 []) :=
    ⟨rfl, .inr ⟨W.heap.size, 0, #[], rfl, Nat.le_refl _, heap_alloc_new W _, Nat.le_refl _, Nat.zero_le _, rfl, rfl⟩⟩
  obtain ⟨b, off, rfl, _⟩ := hl 0 (by omega)
  have HNW : Hid (∀ j u, (cellsOfLines ls)[j]? = some u → (W.alloc (.cells #[] 46)).drew.cell? ((⟨b, off, none⟩ : Addr).add j) = some u) := lines_cells ((hl.below HS.out.below).below HBX.out)
  have HL3 : Hid ((cellsOfLines ls).length = ls.length * 3) := cellsOfLines_len ls
  have H63 : Hid (0 + ls.length ≤ maxLen) := by show 0 + ls.length ≤ maxLen; unfold maxLen; omega
  have H40 : Hid ((0 + ls.length) * 40 ≤ 140737488355328) := by show (0 + ls.length) * 40 ≤ 140737488355328; omega
  have HP : Hid (0 < ls.length) := by show 0 < ls.length; omega
  go_enter Try.func64, Try.ntmps64
  go_wp2
  rw [← HW.out]
  go_region_held3 (fun w' => w'.cell? ⟨w.heap.size, 0, none⟩ = some (.string safe) ∧ w'.cell? ⟨w.heap.size, 1, none⟩ = some (.slice (some ⟨b, off, none⟩) ls.length cap))
      (first | exact HS.out.args HBd.out | exact HS.out.args HBX.out | exact HS.out.args h6 | exact HS.out.args2 h6 _ _)
      ((refine step_append_lies _ (by rfl) _ _ _ (by rfl) W.heap.size 46 i0 (.agg #[.int .i64 0, .string ⟨#[]⟩, .string ⟨#[]⟩]) 3 40 Try.underlying24 hi hz0 hz1 hz2 rfl (by decide) (.slice (some ⟨W.heap.size, 0, none⟩) 0 0) 0 [] (by rfl) HOX.out ⟨b, off, none⟩ ls.length cap (cellsOfLines ls) (by rfl) HL3.out HNW.out (cells_one ls) HP.out H63.out H40.out HBX.out.size _ rfl ?_; intro g cp w6 hown6 hgrow6 hat6 hlt6; have h6 : Below W.heap.size W w6 := ln_own HOX.out HBX.out HBX.out.size hgrow6; have t0 := HS.out.res0 w6 h6; have t1 := HS.out.res1 w6 h6; have y0 := HS.out.fro0 w6 h6; have y1 := HS.out.fro1 w6 h6))
  all_goals
    have hraw : w6.ownsRow W.heap.size 46 3 (.slice (some ⟨g, 0, none⟩) ls.length cp) ls.length (cellsOfLines ls) := by simpa using hown6
    have HRK : Hid (_) := row_kept (w := w) (by rw [← HS.out.size]; exact Nat.le_refl _) hraw
    have HE : Hid (Ended w w6) := HS.out.ended h6
    have q0 := HE.out.at0; have q1 := HE.out.at1
    clear hown6 hraw hgrow6 hat6 hlt6 h6
    go_wp2
    refine bodyPost_ret (v := .agg #[.string safe, .slice (some ⟨g, 0, none⟩) ls.length cp]) (by simp [results, Try.results64, go_sem, q0, q1]) rfl ?_
    exact ⟨_, _, rfl, HRK.out _ _, HE.out.below _ _⟩
end Go.Proofs.Ytgpmpijaggnocaa.dev
