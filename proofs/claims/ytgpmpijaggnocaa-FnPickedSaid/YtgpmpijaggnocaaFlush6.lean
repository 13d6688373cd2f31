/-
  The specification's flush once more: the lines that it hands back are its own.
-/
import Derived.Test.YtgpmpijaggnocaaFlush4
import Derived.Test.YtgpmpijaggnocaaDevMath
import Derived.Deep.Onto
import Derived.Laws.OwnMore
namespace Go.Proofs.Ytgpmpijaggnocaa.dev
open Go.RowKit Go.Maps
open later

theorem cells_sent (ls : List Ln) : ∀ (k : Nat) (hk : k < ls.length) (s : ByteArray), (cellsOfLines ls).set (k * 3 + 2) (.string s) = cellsOfLines (ls.set k ⟨ls[k].place, ls[k].data, s⟩) := by
  induction ls with
  | nil => intro k hk; simp at hk
  | cons l ls ih =>
    intro k hk s
    have e : ∀ (x : Ln) (t : List Ln), cellsOfLines (x :: t) = .int .i64 x.place :: .string x.data :: .string x.sent :: cellsOfLines t := fun x t => by simp [cellsOfLines]
    cases k with
    | zero => simp [e]
    | succ k =>
      have := ih k (by simpa using hk) s
      rw [show (k + 1) * 3 + 2 = (k * 3 + 2) + 1 + 1 + 1 by omega]
      simp only [e, List.set_cons_succ, List.getElem_cons_succ, this]
set_option maxHeartbeats 4000000 in
theorem l2Flush_own (w : World) (safe : ByteArray) (a : Option Addr) (cap : Nat) (ls : List Ln) (p : Int) (hn : ls.length ≤ 1048576) (hl : Lines w a ls) :
    Calls Try.prog 54 #[.agg #[.string safe, .slice a ls.length cap], .int .i64 p] w fun e w' => ∃ g cp, e = .returned (.agg #[.string safe, .slice (some ⟨g, 0, none⟩) ls.length cp]) ∧ w.heap.size ≤ g ∧ w'.ownsRow w.heap.size 46 3 (.slice (some ⟨g, 0, none⟩) ls.length cp) ls.length (cellsOfLines (flushL ls p)) ∧ Below w.heap.size w w' := by
  obtain ⟨W, hW⟩ : ∃ W, W = start w safe (.slice a ls.length cap) := ⟨_, rfl⟩
  have HS : Hid (Start w W safe (.slice a ls.length cap)) := by rw [hW]; exact start_is _ _ _
  have HW : Hid (W = (w.alloc (.cells #[.string safe, .slice a ls.length cap] 26)).alloc (.cells #[.string ⟨#[]⟩, .slice none 0 0] 26)) := hW
  have HC : Hid (Calls _ _ _ _ _) := l2Copy_any W safe a cap ls hn (hl.below HS.out.below)
  clear hW hl
  go_enter Try.func54, Try.ntmps54
  go_wp2_with fail
  rw [← HW.out]
  refine HC.out.mono ?_
  rintro e w2 ⟨g, cp, rfl, hown, hb2⟩
  obtain ⟨a', g', cp', he, hgb, hag, hl2, hr2⟩ := lines_of_row hown
  injection he with he1 _ he3
  subst he1
  have hgW : W.heap.size ≤ g := by
    rcases hown.2 with ⟨q, _⟩ | ⟨g2, _, _, q, hb, _⟩
    · cases q
    · injection q with q1
      injection q1 with q2
      injection q2 with q3
      omega
  have HR0 : Hid (Row w2 g (ls.length * 3)) := fun j hj => by
    have h0 : 0 < ls.length := by omega
    have := hag h0
    injection this with q2
    injection q2 with q3
    subst q3
    exact hr2 j hj
  have hg2 : 0 < ls.length → g < w2.heap.size := fun h => hl2.lt h
  obtain ⟨X, hX⟩ : ∃ X, X = w2.alloc (.cells #[.string safe, .slice (some ⟨g, 0, none⟩) ls.length cp] 26) := ⟨_, rfl⟩
  have hBX : Below w2.heap.size w2 X := by rw [hX]; exact (Below.refl _ _).alloc (Nat.le_refl _) _
  have HBX : Hid (Below W.heap.size W X) := hb2.trans (hBX.mono hb2.size)
  have HLX : Hid (Lines X (some ⟨g, 0, none⟩) ls) := hl2.below hBX
  have HRX : Hid (Row X g (ls.length * 3)) := HR0.out.grown hBX
  have x0 : X.cell? ⟨w2.heap.size, 0, none⟩ = some (.string safe) := by rw [hX, World.cell?_alloc_new]; rfl
  have x1 : X.cell? ⟨w2.heap.size, 1, none⟩ = some (.slice (some ⟨g, 0, none⟩) ls.length cp) := by rw [hX, World.cell?_alloc_new]; rfl
  have HX : Hid (X = w2.alloc (.cells #[.string safe, .slice (some ⟨g, 0, none⟩) ls.length cp] 26)) := hX
  have HG : Hid (0 < ls.length → g < w2.heap.size) := hg2
  have HOX : Hid (X.ownsRow W.heap.size 46 3 (.slice (some ⟨g, 0, none⟩) ls.length cp) ls.length (cellsOfLines ls)) := by
    have h1 : X.ownsRow W.heap.size 46 3 (.slice (some ⟨g, 0, none⟩) ls.length cp) ls.length (cellsOfLines ls) := by rw [hX]; exact hown.alloc _
    exact h1
  clear hown hl2 hr2 hb2 hX hBX hag hgb he3 hg2
  go_wp2_with (rw [← HX.out])
  go_loopw [6] (fun i wr => ∃ k : Nat, k ≤ ls.length ∧ i = .int .i64 k ∧ Lines wr (some ⟨g, 0, none⟩) (flushK ls p k) ∧ Row wr g (ls.length * 3) ∧ wr.ownsRow W.heap.size 46 3 (.slice (some ⟨g, 0, none⟩) ls.length cp) ls.length (cellsOfLines (flushK ls p k)) ∧ wr.cell? ⟨w2.heap.size, 0, none⟩ = some (.string safe) ∧ wr.cell? ⟨w2.heap.size, 1, none⟩ = some (.slice (some ⟨g, 0, none⟩) ls.length cp) ∧ Below W.heap.size W wr) (fun i _ => ls.length - (intOf i).toNat)
  case atStart => exact ⟨0, Nat.zero_le _, rfl, by rw [flushK_zero]; exact HLX.out, HRX.out, by rw [flushK_zero]; exact HOX.out, x0, x1, HBX.out⟩
  case round =>
    clear x0 x1
    obtain ⟨k, hk, rfl, hlr, hrr, hor, m0, m1, hb⟩ := hrel
    have HO : Hid (wr.ownsRow W.heap.size 46 3 (.slice (some ⟨g, 0, none⟩) ls.length cp) ls.length (cellsOfLines (flushK ls p k))) := hor
    have HL : Hid (Lines wr (some ⟨g, 0, none⟩) (flushK ls p k)) := hlr
    have HR : Hid (Row wr g (ls.length * 3)) := hrr
    have HB : Hid (Below W.heap.size W wr) := hb
    clear hlr hrr hb hor
    by_cases hlt : k < ls.length
    · have hlt2 : k < (flushK ls p k).length := by rw [flushK_len]; exact hlt
      obtain ⟨b, o, e, c0, c1, c2⟩ := HL.out k hlt2
      simp at e
      obtain ⟨rfl, rfl⟩ := e
      rw [flushK_at] at c0 c1 c2
      rw [Nat.zero_add] at c0 c1 c2
      have hfr := (HR.out (k * 3 + 2) (by omega)).2
      have hst := flushK_succ ls p k hlt
      have hsl := lines_sent HL.out k hlt2 ls[k].data
      rw [flushK_at] at hsl
      have hos := (HO.out.stored (k * 3 + 2) (.string ls[k].data)).1
      rw [cells_sent (flushK ls p k) k hlt2, flushK_at] at hos
      have HOS : Hid ((wr.setCell ⟨g, k * 3 + 2, none⟩ (.string ls[k].data)).ownsRow W.heap.size 46 3 (.slice (some ⟨g, 0, none⟩) ls.length cp) ls.length (cellsOfLines ((flushK ls p k).set k ⟨ls[k].place, ls[k].data, ls[k].data⟩))) := hos
      have HSL : Hid (Lines (wr.setCell ⟨g, k * 3 + 2, none⟩ (.string ls[k].data)) (some ⟨g, 0, none⟩) ((flushK ls p k).set k ⟨ls[k].place, ls[k].data, ls[k].data⟩)) := hsl
      have hid : (flushK ls p k).set k ls[k] = flushK ls p k := by
        conv => lhs; rw [← flushK_at ls p k hlt2]
        exact List.set_getElem_self _
      have HID : Hid ((flushK ls p k).set k ls[k] = flushK ls p k) := hid
      generalize hlk : ls[k] = l at c0 c1 c2 hst HSL HID HOS
      obtain ⟨pl, dt, sn⟩ := l
      simp only at c0 c1 c2
      have HST : Hid (flushK ls p (k + 1) = (flushK ls p k).set k (flushLn p ⟨pl, dt, sn⟩)) := hst
      have hgB : g < w2.heap.size := HG.out (by omega)
      have HNE : Hid (∀ i j : Nat, (⟨w2.heap.size, i, none⟩ : Addr) ≠ ⟨g, j, none⟩) := fun i j q => by have := congrArg Addr.block q; simp at this; omega
      clear hst hsl hid hlk hos
      by_cases hpp : pl = p
      · subst hpp
        have HFL : Hid (flushLn pl ⟨pl, dt, sn⟩ = ⟨pl, dt, dt⟩) := by show flushLn pl ⟨pl, dt, sn⟩ = ⟨pl, dt, dt⟩; simp [flushLn]
        go_wp2
        go_region
        all_goals
          go_wp2
          go_roundw
          case rel =>
            refine ⟨k + 1, by omega, by go_num, by rw [HST.out, HFL.out]; exact HSL.out, HR.out.set _ _, by rw [HST.out, HFL.out]; exact HOS.out, ?_, ?_, ?_⟩
            · show (wr.setCell ⟨g, k * 3 + 2, none⟩ (.string dt)).cell? _ = _
              rw [World.cell?_setCell_other _ _ _ _ (by first | exact HNE.out _ _ | exact Ne.symm (HNE.out _ _))]; exact m0
            · show (wr.setCell ⟨g, k * 3 + 2, none⟩ (.string dt)).cell? _ = _
              rw [World.cell?_setCell_other _ _ _ _ (by first | exact HNE.out _ _ | exact Ne.symm (HNE.out _ _))]; exact m1
            · exact HB.out.drew.setCell (p := ⟨g, k * 3 + 2, none⟩) hgW _
          case measure => simp [intOf]; omega
      · have HFL : Hid (flushLn p ⟨pl, dt, sn⟩ = ⟨pl, dt, sn⟩) := by show flushLn p ⟨pl, dt, sn⟩ = ⟨pl, dt, sn⟩; simp [flushLn, hpp]
        have e1 : (pl == p) = false := by simpa using hpp
        go_wp2
        go_roundw
        case rel => exact ⟨k + 1, by omega, by go_num, by rw [HST.out, HFL.out, HID.out]; exact HL.out, HR.out, by rw [HST.out, HFL.out, HID.out]; exact HO.out, m0, m1, HB.out⟩
        case measure => simp [intOf]; omega
    · rw [flushK_end ls p k (by omega)] at HL HO
      have t0 := HS.out.res0 wr HB.out; have t1 := HS.out.res1 wr HB.out; have y0 := HS.out.fro0 wr HB.out; have y1 := HS.out.fro1 wr HB.out
      have HE : Hid (Ended w wr) := HS.out.ended HB.out
      have q0 := HE.out.at0; have q1 := HE.out.at1
      have hWs := HS.out.size
      go_wp2
      refine bodyPost_ret (v := .agg #[.string safe, .slice (some ⟨g, 0, none⟩) ls.length cp]) (by simp [results, Try.results54, go_sem, q0, q1]) rfl ?_
      exact ⟨_, _, rfl, by omega, row_kept (w := w) (by omega) HO.out _ _, HE.out.below _ _⟩
end Go.Proofs.Ytgpmpijaggnocaa.dev
