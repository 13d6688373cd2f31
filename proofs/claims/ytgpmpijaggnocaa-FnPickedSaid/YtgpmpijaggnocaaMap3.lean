/-
  The program's lines in order, out of a map; nothing that was there is written.
-/
import Derived.Test.YtgpmpijaggnocaaMap2
import Derived.Deep.AppendLies
namespace Go.Proofs.Ytgpmpijaggnocaa.dev
open Go.RowKit Go.Maps

def inOrder (f : Int → Option Ln) (n : Nat) : List Ln := (List.range n).filterMap fun i : Nat => f (i : Int)
theorem inOrder_succ (f : Int → Option Ln) (n : Nat) : inOrder f (n + 1) = inOrder f n ++ (match f (n : Int) with | some l => [l] | none => []) := by
  unfold inOrder
  rw [List.range_succ, List.filterMap_append]
  congr 1
  cases h : f (n : Int) <;> simp [h]
theorem inOrder_le (f : Int → Option Ln) (n : Nat) : (inOrder f n).length ≤ n := by
  unfold inOrder
  exact Nat.le_trans (List.length_filterMap_le _ _) (by simp)
def cellsOfLines (ls : List Ln) : List Value := ls.flatMap fun l => [.int .i64 l.place, .string l.data, .string l.sent]
theorem cellsOfLines_snoc (ls : List Ln) (l : Ln) : cellsOfLines (ls ++ [l]) = cellsOfLines ls ++ [.int .i64 l.place, .string l.data, .string l.sent] := by simp [cellsOfLines]
theorem cellsOfLines_len (ls : List Ln) : (cellsOfLines ls).length = ls.length * 3 := by
  induction ls with
  | nil => rfl
  | cons l ls ih => simp [cellsOfLines] at ih ⊢; omega
theorem cellsOfLines_at (ls : List Ln) : ∀ (i : Nat) (hi : i < ls.length), (cellsOfLines ls)[i * 3]? = some (.int .i64 ls[i].place) ∧ (cellsOfLines ls)[i * 3 + 1]? = some (.string ls[i].data) ∧ (cellsOfLines ls)[i * 3 + 2]? = some (.string ls[i].sent) := by
  induction ls with
  | nil => intro i hi; simp at hi
  | cons l ls ih =>
    intro i hi
    cases i with
    | zero => simp [cellsOfLines]
    | succ i =>
      have := ih i (by simpa using hi)
      have e : cellsOfLines (l :: ls) = [.int .i64 l.place, .string l.data, .string l.sent] ++ cellsOfLines ls := by simp [cellsOfLines]
      rw [e]
      refine ⟨?_, ?_, ?_⟩
      · rw [List.getElem?_append_right (by simp; omega)]
        simpa [show (i + 1) * 3 - 3 = i * 3 by omega] using this.1
      · rw [List.getElem?_append_right (by simp; omega)]
        simpa [show (i + 1) * 3 + 1 - 3 = i * 3 + 1 by omega] using this.2.1
      · rw [List.getElem?_append_right (by simp; omega)]
        simpa [show (i + 1) * 3 + 2 - 3 = i * 3 + 2 by omega] using this.2.2
theorem lines_of_row {w : World} {base : Nat} {v : Value} {ls : List Ln} (h : w.ownsRow base 46 3 v ls.length (cellsOfLines ls)) :
    ∃ a g cap, v = .slice a ls.length cap ∧ base ≤ g ∧ (0 < ls.length → a = some ⟨g, 0, none⟩) ∧ Lines w a ls ∧ Row w g (ls.length * 3) := by
  rcases h.2 with ⟨rfl, h0⟩ | ⟨g, cap, cur, rfl, hb, hg, hc, hcm, hcs, ht⟩
  · exact ⟨none, base, 0, by rw [h0], Nat.le_refl _, fun q => by omega, fun i hi => by omega, fun j hj => by omega⟩
  · have hcell : ∀ j u, (cellsOfLines ls)[j]? = some u → w.cell? ⟨g, j, none⟩ = some u := fun j u hu => by
      rw [← ht, List.getElem?_take] at hu
      split at hu
      · rw [cell_of_row w g j cur _ (0, 0) hg]; simpa using hu
      · cases hu
    refine ⟨_, g, cap, rfl, hb, fun _ => rfl, fun i hi => ?_, fun j hj => ?_⟩
    · obtain ⟨h0, h1, h2⟩ := cellsOfLines_at ls i hi
      exact ⟨g, 0, rfl, by rw [Nat.zero_add]; exact hcell _ _ h0, by rw [Nat.zero_add]; exact hcell _ _ h1, by rw [Nat.zero_add]; exact hcell _ _ h2⟩
    · have hj2 : j < (cellsOfLines ls).length := by rw [cellsOfLines_len]; exact hj
      exact ⟨⟨_, hcell j _ (List.getElem?_eq_getElem hj2)⟩, by simp [World.frozen?, hg]⟩
theorem ln_own {w w' : World} {B : Nat} {v : Value} {W : World} {n : Nat} {xs : List Value} (h : w.ownsRow B 46 3 v n xs) (hb : Below B W w) (hB : B ≤ w.heap.size) (hg : w.grownBy w' v.ownBlock) : Below B W w' :=
  hb.trans ⟨hg.os, hg.tape, hg.output, hg.size, fun k hk => hg.block k (by omega) (fun e => by have := (h.lt k e.symm).1; omega)⟩
theorem ln_below {w w' : World} {B : Nat} {e : TypeId} {size : Nat} {v : Value} {n : Nat} {xs : List Value} (h : w.ownsRow B e size v n xs) (hb : Below w.heap.size w w') : w'.ownsRow B e size v n xs :=
  h.kept (grown_below none hb) (by
    rcases hv : v.ownBlock with _ | k
    · exact .inl rfl
    · exact .inr (by simp))
set_option maxHeartbeats 4000000 in
theorem linesInOrder_any (w : World) (b n : Nat) (f : Int → Option Ln) (count : Nat) (hc : count ≤ 1048576) (hm : MapIs w b n f) :
    Calls Try.prog 40 #[.map (some b), .int .i64 (count : Int)] w fun e w' => ∃ v, e = .returned v ∧ w'.ownsRow w.heap.size 46 3 v (inOrder f count).length (cellsOfLines (inOrder f count)) ∧ Below w.heap.size w w' := by
  obtain ⟨i0, hi, hzz⟩ := Option.map_eq_some_iff.1 infoLine
  simp only [Prod.mk.injEq] at hzz
  obtain ⟨hz0, hz1, hz2⟩ := hzz
  have HM : Hid (∀ w', Below w.heap.size w w' → MapIs w' b n f) := fun w' h => hm.below h
  clear hm
  go_enter Try.func40, Try.ntmps40
  go_wp2
  go_loopw [5, 10] (fun v i wr => ∃ k : Nat, k ≤ count ∧ i = .int .i64 k ∧ wr.ownsRow w.heap.size 46 3 v (inOrder f k).length (cellsOfLines (inOrder f k)) ∧ Below w.heap.size w wr) (fun _ i _ => count - (intOf i).toNat)
  case atStart => exact ⟨0, Nat.zero_le _, rfl, World.ownsRow_nil _ _ _ _, Below.refl _ _⟩
  case round =>
    obtain ⟨k, hk, rfl, hown, hb⟩ := hrel
    have HO : Hid (wr.ownsRow w.heap.size 46 3 _ (inOrder f k).length (cellsOfLines (inOrder f k))) := hown
    have HB : Hid (Below w.heap.size w wr) := hb
    clear hown hb
    by_cases hlt : k < count
    · have hst := inOrder_succ f k
      have hle := inOrder_le f k
      have hwf : (Lit.int .i64 (k : Int)).wf = true := wf_small _ (by omega) (by omega)
      have HMw := HM.out wr HB.out
      generalize inOrder f k = R at HO hst hle
      cases hfk : f (k : Int) with
      | none =>
        rw [hfk] at hst
        have HST : Hid (inOrder f (k + 1) = R) := by
          have h1 := hst
          simp at h1
          exact h1
        obtain ⟨X, hX⟩ : ∃ X, X = wr.alloc (.cells #[.int .i64 0, .string ⟨#[]⟩, .string ⟨#[]⟩] 46) := ⟨_, rfl⟩
        have HX : Hid (X = wr.alloc (.cells #[.int .i64 0, .string ⟨#[]⟩, .string ⟨#[]⟩] 46)) := hX
        have hBX : Below wr.heap.size wr X := by rw [hX]; exact (Below.refl _ _).alloc (Nat.le_refl _) _
        have HBX : Hid (Below w.heap.size w X) := HB.out.trans (hBX.mono HB.out.size)
        have HOX : Hid (X.ownsRow w.heap.size 46 3 _ R.length (cellsOfLines R)) := ln_below HO.out hBX
        clear hst hX hBX
        go_wp2_with (at_lookup; refine at_get_none _ rfl _ _ rfl b n f rfl HMw _ hfk rfl hwf ?_)
        go_roundw
        case rel => exact ⟨k + 1, by omega, by go_num, by rw [HST.out, ← HX.out]; exact HOX.out, by rw [← HX.out]; exact HBX.out⟩
        case measure => simp [intOf]; omega
      | some l =>
        rw [hfk] at hst
        obtain ⟨pl, dt, sn⟩ := l
        have HST : Hid (inOrder f (k + 1) = R ++ [⟨pl, dt, sn⟩]) := hst
        obtain ⟨X, hX⟩ : ∃ X, X = wr.alloc (.cells #[.int .i64 pl, .string dt, .string sn] 46) := ⟨_, rfl⟩
        have HX : Hid (X = wr.alloc (.cells #[.int .i64 pl, .string dt, .string sn] 46)) := hX
        have hBX : Below wr.heap.size wr X := by rw [hX]; exact (Below.refl _ _).alloc (Nat.le_refl _) _
        have HBX : Hid (Below w.heap.size w X) := HB.out.trans (hBX.mono HB.out.size)
        have HOX : Hid (X.ownsRow w.heap.size 46 3 _ R.length (cellsOfLines R)) := ln_below HO.out hBX
        have x0 : X.cell? ⟨wr.heap.size, 0, none⟩ = some (.int .i64 pl) := by rw [hX, World.cell?_alloc_new]; rfl
        have x1 : X.cell? ⟨wr.heap.size, 1, none⟩ = some (.string dt) := by rw [hX, World.cell?_alloc_new]; rfl
        have x2 : X.cell? ⟨wr.heap.size, 2, none⟩ = some (.string sn) := by rw [hX, World.cell?_alloc_new]; rfl
        have hXs : w.heap.size ≤ X.heap.size := HBX.out.size
        clear hst hX hBX
        go_wp2_with (first | (at_lookup; refine at_get_some _ rfl _ _ rfl b n f rfl HMw _ _ hfk rfl hwf ?_) | (rw [← HX.out]) | (at_builtin; refine wpList_append_lies _ rfl _ _ 24 rfl w.heap.size 46 i0 (.agg #[.int .i64 0, .string ⟨#[]⟩, .string ⟨#[]⟩]) 3 40 Try.underlying24 hi hz0 hz1 hz2 rfl (by decide) _ _ _ rfl (HOX.out.alloc _) ⟨X.heap.size, 0, none⟩ 1 1 [.int .i64 pl, .string dt, .string sn] rfl rfl ?c1 ?c2 (by decide) ?c3 ?c4 ?c5 _ rfl ?_))
        case c1 =>
          intro j u hj
          match j, hj with
          | 0, hj => simp at hj; subst hj; simp [Addr.add]
          | 1, hj => simp at hj; subst hj; simp [Addr.add]
          | 2, hj => simp at hj; subst hj; simp [Addr.add]
        case c2 => intro u hu; simp at hu; rcases hu with rfl | rfl | rfl <;> rfl
        case c3 => unfold maxLen; omega
        case c4 => omega
        case c5 => simp; omega
        intro g cp w6 hown6 hgrow6 hat6 hlt6
        have HB6 : Hid (Below w.heap.size w w6) := ln_own (HOX.out.alloc _) (HBX.out.alloc hXs _) (by simp; omega) hgrow6
        have hraw : w6.ownsRow w.heap.size 46 3 (.slice (some ⟨g, 0, none⟩) (R.length + 1) cp) (inOrder f (k + 1)).length (cellsOfLines (inOrder f (k + 1))) := by
          rw [HST.out, cellsOfLines_snoc]
          simpa using hown6
        have HO6 : Hid (w6.ownsRow w.heap.size 46 3 (.slice (some ⟨g, 0, none⟩) (R.length + 1) cp) (inOrder f (k + 1)).length (cellsOfLines (inOrder f (k + 1)))) := hraw
        clear hraw hown6 hgrow6 hat6 hlt6 x0 x1 x2
        go_wp2
        go_roundw
        case rel => exact ⟨k + 1, by omega, by go_num, HO6.out, HB6.out⟩
        case measure => simp [intOf]; omega
    · have hk2 : k = count := by omega
      subst hk2
      go_wp2
      go_ret
      exact ⟨_, rfl, HO.out, HB.out⟩
end Go.Proofs.Ytgpmpijaggnocaa.dev
