/-
  What the specification's l2With and l2Evict return: a text with other bytes from a place on; the lines without one, and the text with its data, in new memory; nothing that was there is written.
-/
import Derived.Test.YtgpmpijaggnocaaEvict1
import Derived.Test.YtgpmpijaggnocaaDev5
namespace Go.Proofs.Ytgpmpijaggnocaa.dev
open Go.RowKit Go.Maps
open bb later

set_option maxHeartbeats 2000000 in
theorem l2With_any (w : World) (s : ByteArray) (o : Nat) (d : ByteArray) (hs : s.size ≤ 1048576) (h : o + d.size ≤ s.size) :
    Calls Try.prog 56 #[.string s, .int .i64 (o : Int), .string d] w fun e w' => e = .returned (.string (withAt s o d)) ∧ Below w.heap.size w w' := by
  have HE : Hid (s.extract 0 o ++ d ++ s.extract (o + d.size) s.size = withAt s o d) := withAt_eq s o d
  have h1 : (0 : Int) ≤ (o : Int) := by omega
  have h2 : (o : Int) ≤ (s.size : Int) := by omega
  have h3 : IntKind.i64.wrap ((o : Int) + (d.size : Int)) = (o : Int) + (d.size : Int) := by rw [IntKind.wrap_i64]; omega
  have h4 : (o : Int) + (d.size : Int) ≤ (s.size : Int) := by omega
  have h5 : (0 : Int) ≤ (o : Int) + (d.size : Int) := by omega
  have hz1 : (s.extract 0 o).size = o := by simp; omega
  have hz2 : (s.extract (o + d.size) s.size).size = s.size - (o + d.size) := by simp
  have h6 : (s.extract 0 o).size + d.size ≤ 1048576 := by omega
  have h7 : (s.extract 0 o ++ d).size + (s.extract (o + d.size) s.size).size ≤ 1048576 := by rw [ByteArray.size_append]; omega
  go_enter Try.func56, Try.ntmps56
  go_wp2
  go_region
  all_goals
    go_wp2
    go_ret
    refine ⟨?_, by first | exact Below.refl _ _ | exact (Below.refl _ _).drew | go_grown⟩
    rw [← HE.out]
    rfl
theorem take_find_no {ls : List Ln} (hp : ls.Pairwise (fun a b => a.place < b.place)) (k : Nat) (hk : k < ls.length) : findAt (ls.take k) ls[k].place = none := by
  unfold findAt
  rw [List.find?_eq_none]
  intro x hx
  obtain ⟨i, hi, rfl⟩ := List.getElem_of_mem hx
  have hik : i < k := by simp at hi; omega
  rw [List.getElem_take]
  have := (List.pairwise_iff_getElem.1 hp) i k (by omega) hk hik
  simp
  omega
theorem take_find (ls : List Ln) (p : Int) (k : Nat) (hk : k < ls.length) : findAt (ls.take (k + 1)) p = (findAt (ls.take k) p).or (if ls[k].place = p then some ls[k] else none) := by
  unfold findAt
  rw [List.take_succ_eq_append_getElem hk, List.find?_append]
  congr 1
  by_cases h : ls[k].place = p <;> simp [h]
theorem evict_hit {safe : ByteArray} {ls : List Ln} (h : DevOk safe ls) (k : Nat) (hk : k < ls.length) : evictS safe (ls.take k) ls[k].place = safe ∧ evictS safe (ls.take (k + 1)) ls[k].place = withAt safe (64 * ls[k].place.toNat) ls[k].data := by
  have h1 := take_find_no (ok_pairwise h) k hk
  have h2 := take_find ls ls[k].place k hk
  rw [h1] at h2
  constructor
  · unfold evictS; rw [h1]
  · unfold evictS; rw [h2]; simp
theorem evict_miss (safe : ByteArray) (ls : List Ln) (p : Int) (k : Nat) (hk : k < ls.length) (h : ls[k].place ≠ p) : evictS safe (ls.take (k + 1)) p = evictS safe (ls.take k) p := by
  unfold evictS
  rw [take_find ls p k hk, if_neg h]
  simp
theorem evictL_take (ls : List Ln) (p : Int) (k : Nat) (hk : k < ls.length) : evictL (ls.take (k + 1)) p = evictL (ls.take k) p ++ (if ls[k].place = p then [] else [ls[k]]) := by
  unfold evictL
  rw [List.take_succ_eq_append_getElem hk, List.filter_append]
  congr 1
  by_cases h : ls[k].place = p <;> simp [h]

theorem own_low {w : World} {B : Nat} {e : TypeId} {size : Nat} {v : Value} {n : Nat} {xs : List Value} (h : w.ownsRow (B + 1) e size v n xs) : w.ownsRow B e size v n xs := by
  refine ⟨h.1, ?_⟩
  rcases h.2 with q | ⟨g, cap, cur, q1, q2, q3⟩
  · exact .inl q
  · exact .inr ⟨g, cap, cur, q1, by omega, q3⟩
/-- As row_kept, with its own beginning kept. -/
theorem row_kept3 {w wr : World} {B : Nat} {v : Value} {n : Nat} {xs : List Value} (hB : B = w.heap.size + 3) (h : wr.ownsRow B 46 3 v n xs) (S V : Value) :
    ((wr.setCell ⟨w.heap.size + 1, 0, none⟩ S).setCell ⟨w.heap.size + 1, 1, none⟩ V).ownsRow (w.heap.size + 3) 46 3 v n xs := by
  subst hB
  have hne : v.ownBlock = none ∨ v.ownBlock ≠ some (w.heap.size + 1) := by
    rcases hv : v.ownBlock with _ | k
    · exact .inl rfl
    · exact .inr (fun q => by have := (h.lt k hv).1; injection q with q; omega)
  exact (h.kept (grown_set wr (w.heap.size + 1) 0 S) hne).kept (grown_set _ (w.heap.size + 1) 1 V) hne
set_option maxHeartbeats 8000000 in
theorem l2Evict_any (w : World) (safe : ByteArray) (a : Option Addr) (cap : Nat) (ls : List Ln) (p : Nat) (hs : safe.size ≤ 1048576) (hn : ls.length ≤ 1048576) (hl : Lines w a ls) (hok : DevOk safe ls) :
    Calls Try.prog 53 #[.agg #[.string safe, .slice a ls.length cap], .int .i64 (p : Int)] w fun e w' => ∃ u, e = .returned (.agg #[.string (evictS safe ls (p : Int)), u]) ∧ w'.ownsRow (w.heap.size + 3) 46 3 u (evictL ls (p : Int)).length (cellsOfLines (evictL ls (p : Int))) ∧ Below w.heap.size w w' := by
  obtain ⟨i0, hi, hzz⟩ := Option.map_eq_some_iff.1 infoLine
  simp only [Prod.mk.injEq] at hzz
  obtain ⟨hz0, hz1, hz2⟩ := hzz
  obtain ⟨W, hW⟩ : ∃ W, W = start w safe (.slice a ls.length cap) := ⟨_, rfl⟩
  have HS : Hid (Start w W safe (.slice a ls.length cap)) := by rw [hW]; exact start_is _ _ _
  have HW : Hid (W = (w.alloc (.cells #[.string safe, .slice a ls.length cap] 26)).alloc (.cells #[.string ⟨#[]⟩, .slice none 0 0] 26)) := hW
  have HL : Hid (∀ w', Below W.heap.size W w' → Lines w' a ls) := fun w' h => (hl.below HS.out.below).below h
  have HOK : Hid (DevOk safe ls) := hok
  have HWS : Hid (W.heap.size = w.heap.size + 2) := HS.out.size
  obtain ⟨V, hV⟩ : ∃ V, V = W.alloc (.cells #[.string safe, .slice none 0 0] 26) := ⟨_, rfl⟩
  have HBV : Hid (Below W.heap.size W V) := by
    have h1 : Below W.heap.size W V := by rw [hV]; exact (Below.refl _ _).alloc (Nat.le_refl _) _
    exact h1
  have v0 : V.cell? ⟨W.heap.size, 0, none⟩ = some (.string safe) := by rw [hV, World.cell?_alloc_new]; rfl
  have v1 : V.cell? ⟨W.heap.size, 1, none⟩ = some (.slice none 0 0) := by rw [hV, World.cell?_alloc_new]; rfl
  have v2 : ∀ o, V.frozen? ⟨W.heap.size, o, none⟩ = false := fun o => by rw [hV]; exact World.frozen?_alloc_new _ _ _ _
  have hVs : V.heap.size = W.heap.size + 1 := by rw [hV]; simp
  have HV : Hid (V = W.alloc (.cells #[.string safe, .slice none 0 0] 26)) := hV
  have n0 := HS.out.arg0 W (Below.refl _ _); have n1 := HS.out.arg1 W (Below.refl _ _)
  clear hl hW hok hV
  go_enter Try.func53, Try.ntmps53
  go_wp2_with (first | (rw [← HW.out]) | (rw [← HV.out]))
  clear n0 n1
  go_loopw [6] (fun i wr => ∃ (k : Nat) (u : Value), k ≤ ls.length ∧ i = .int .i64 k ∧ wr.cell? ⟨W.heap.size, 0, none⟩ = some (.string (evictS safe (ls.take k) (p : Int))) ∧ wr.cell? ⟨W.heap.size, 1, none⟩ = some u ∧ wr.frozen? ⟨W.heap.size, 0, none⟩ = false ∧ wr.frozen? ⟨W.heap.size, 1, none⟩ = false ∧ wr.ownsRow (W.heap.size + 1) 46 3 u (evictL (ls.take k) (p : Int)).length (cellsOfLines (evictL (ls.take k) (p : Int))) ∧ Below W.heap.size W wr) (fun i _ => ls.length - (intOf i).toNat)
  case atStart => exact ⟨0, _, Nat.zero_le _, rfl, v0, v1, v2 0, v2 1, World.ownsRow_nil _ _ _ _, HBV.out⟩
  case round =>
    clear v0 v1 v2
    obtain ⟨k, u, hk, rfl, m0, m1, f0, f1, hown, hb⟩ := hrel
    have HO : Hid (wr.ownsRow (W.heap.size + 1) 46 3 u (evictL (ls.take k) (p : Int)).length (cellsOfLines (evictL (ls.take k) (p : Int)))) := hown
    have HB : Hid (Below W.heap.size W wr) := hb
    clear hown hb
    have n1 := HS.out.arg1 wr HB.out
    have hWr : W.heap.size < wr.heap.size := World.block_lt_of_cell? wr _ m0
    by_cases hlt : k < ls.length
    · have hlk := HOK.out.2.2.2 k hlt
      have hhit := evict_hit HOK.out k hlt
      have hmiss := evict_miss safe ls (p : Int) k hlt
      have hst := evictL_take ls (p : Int) k hlt
      have hle : (evictL (ls.take k) (p : Int)).length ≤ ls.length := Nat.le_trans (evictL_le _ _) (by simp; omega)
      obtain ⟨bb, off, rfl, c0, c1, c2⟩ := HL.out wr HB.out k hlt
      generalize ls[k] = l at c0 c1 c2 hlk hst hhit hmiss
      obtain ⟨pl, dt, sn⟩ := l
      simp only at c0 c1 c2 hst hhit hmiss
      obtain ⟨_, hp0, hp1, hd64, _⟩ := hlk
      simp only at hp0 hp1 hd64
      have hlti : (k : Int) < (ls.length : Int) := by omega
      obtain ⟨X, hX⟩ : ∃ X, X = wr.alloc (.cells #[.int .i64 pl, .string dt, .string sn] 46) := ⟨_, rfl⟩
      have hBX : Below wr.heap.size wr X := by rw [hX]; exact (Below.refl _ _).alloc (Nat.le_refl _) _
      have HBX : Hid (Below W.heap.size W X) := HB.out.trans (hBX.mono HB.out.size)
      have HOX : Hid (X.ownsRow (W.heap.size + 1) 46 3 u (evictL (ls.take k) (p : Int)).length (cellsOfLines (evictL (ls.take k) (p : Int)))) := ln_below HO.out hBX
      have x0 : X.cell? ⟨wr.heap.size, 0, none⟩ = some (.int .i64 pl) := by rw [hX, World.cell?_alloc_new]; rfl
      have x1 : X.cell? ⟨wr.heap.size, 1, none⟩ = some (.string dt) := by rw [hX, World.cell?_alloc_new]; rfl
      have x2 : X.cell? ⟨wr.heap.size, 2, none⟩ = some (.string sn) := by rw [hX, World.cell?_alloc_new]; rfl
      have b0 : X.cell? ⟨W.heap.size, 0, none⟩ = some (.string (evictS safe (ls.take k) (p : Int))) := by rw [hBX.cell (p := ⟨W.heap.size, 0, none⟩) hWr]; exact m0
      have b1 : X.cell? ⟨W.heap.size, 1, none⟩ = some u := by rw [hBX.cell (p := ⟨W.heap.size, 1, none⟩) hWr]; exact m1
      have g0 : X.frozen? ⟨W.heap.size, 0, none⟩ = false := by rw [hBX.frozen (p := ⟨W.heap.size, 0, none⟩) hWr]; exact f0
      have g1 : X.frozen? ⟨W.heap.size, 1, none⟩ = false := by rw [hBX.frozen (p := ⟨W.heap.size, 1, none⟩) hWr]; exact f1
      have hWX : W.heap.size < X.heap.size := Nat.lt_of_lt_of_le hWr hBX.size
      have HX : Hid (X = wr.alloc (.cells #[.int .i64 pl, .string dt, .string sn] 46)) := hX
      clear hX hBX HO
      by_cases hpp : pl = (p : Int)
      · subst hpp
        have h64 : 64 * p + 64 ≤ safe.size := by have := HOK.out.1; omega
        have HLn : Hid (evictL (ls.take (k + 1)) (p : Int) = evictL (ls.take k) (p : Int)) := by
          have h1 := hst
          rw [if_pos rfl, List.append_nil] at h1
          exact h1
        rw [hhit.1] at b0
        have HSt : Hid (evictS safe (ls.take (k + 1)) (p : Int) = withAt safe (64 * p) dt) := hhit.2
        have HWI : Hid (∀ w, Calls Try.prog 56 #[.string safe, .int .i64 (64 * (p : Int)), .string dt] w fun e w' => e = .returned (.string (withAt safe (64 * p) dt)) ∧ Below w.heap.size w w') := fun w => by
          have := l2With_any w safe (64 * p) dt hs (by omega)
          rw [show ((64 * p : Nat) : Int) = 64 * (p : Int) by omega] at this
          exact this
        have hw64 : IntKind.i64.wrap (64 * (p : Int)) = 64 * (p : Int) := by rw [IntKind.wrap_i64]; omega
        have hpe : ((p : Int) == (p : Int)) = true := by simp
        generalize withAt safe (64 * p) dt = st at HSt HWI
        clear hhit hmiss hst hp0 hp1 hd64 m0 m1 f0 f1
        go_wp2_with (first | (rw [← HX.out]) | fail)
        refine (HWI.out _).mono ?_
        rintro e w6 ⟨rfl, hb6⟩
        have HB6 : Hid (Below W.heap.size W w6) := HBX.out.trans (hb6.mono HBX.out.size)
        have HO6 : Hid (w6.ownsRow (W.heap.size + 1) 46 3 u (evictL (ls.take k) (p : Int)).length (cellsOfLines (evictL (ls.take k) (p : Int)))) := ln_below HOX.out hb6
        have d0 : w6.cell? ⟨W.heap.size, 0, none⟩ = some (.string safe) := by rw [hb6.cell (p := ⟨W.heap.size, 0, none⟩) hWX]; exact b0
        have d1 : w6.cell? ⟨W.heap.size, 1, none⟩ = some u := by rw [hb6.cell (p := ⟨W.heap.size, 1, none⟩) hWX]; exact b1
        have e0 : w6.frozen? ⟨W.heap.size, 0, none⟩ = false := by rw [hb6.frozen (p := ⟨W.heap.size, 0, none⟩) hWX]; exact g0
        have e1 : w6.frozen? ⟨W.heap.size, 1, none⟩ = false := by rw [hb6.frozen (p := ⟨W.heap.size, 1, none⟩) hWX]; exact g1
        clear hb6 b0 b1 g0 g1 x0 x1 x2 c0 c1 c2
        go_wp2
        go_roundw
        case rel =>
          refine ⟨k + 1, u, by omega, by go_num, ?_, ?_, ?_, ?_, ?_, ?_⟩
          · rw [HSt.out]; exact World.cell?_setCell_same _ _ _ d0
          · rw [World.cell?_setCell_other _ _ _ _ (fun q => by have := congrArg Addr.off q; simp at this)]; exact d1
          · rw [World.frozen?_setCell]; exact e0
          · rw [World.frozen?_setCell]; exact e1
          · rw [HLn.out]
            exact HO6.out.kept (grown_set _ W.heap.size 0 _) (by
              rcases hv : u.ownBlock with _ | j
              · exact .inl rfl
              · refine .inr (fun q => ?_)
                have := (HO6.out.lt j hv).1
                injection q with q
                omega)
          · exact HB6.out.setCell (p := ⟨W.heap.size, 0, none⟩) (Nat.le_refl _) _
        case measure => simp [intOf]; omega
      · have hpe : (pl == (p : Int)) = false := by simpa using hpp
        have HLn : Hid (evictL (ls.take (k + 1)) (p : Int) = evictL (ls.take k) (p : Int) ++ [⟨pl, dt, sn⟩]) := by
          have h1 := hst
          rw [if_neg hpp] at h1
          exact h1
        have HSt : Hid (evictS safe (ls.take (k + 1)) (p : Int) = evictS safe (ls.take k) (p : Int)) := hmiss hpp
        clear hhit hmiss hst hp0 hp1 hd64 m0 m1 f0 f1 hpp
        generalize evictL (ls.take k) (p : Int) = R at HLn HOX hle
        generalize evictS safe (ls.take k) (p : Int) = st at HSt b0
        go_wp2_with (first | (rw [← HX.out]) | (at_builtin; refine wpList_append_lies _ rfl _ _ 24 rfl (W.heap.size + 1) 46 i0 (.agg #[.int .i64 0, .string ⟨#[]⟩, .string ⟨#[]⟩]) 3 40 Try.underlying24 hi hz0 hz1 hz2 rfl (by decide) _ _ _ rfl (HOX.out.alloc _) ⟨X.heap.size, 0, none⟩ 1 1 [.int .i64 pl, .string dt, .string sn] rfl rfl ?c1 ?c2 (by decide) ?c3 ?c4 ?c5 _ rfl ?_))
        case c2 => exact ⟨rfl, rfl, rfl⟩
        case c3 => unfold maxLen; omega
        case c4 => omega
        case c5 => first | omega | (simp; omega)
        intro g cp w6 hown6 hgrow6 hat6 hlt6
        have hne6 : ∀ j, u.ownBlock = some j → W.heap.size ≠ j := fun j hj q => by have := (HOX.out.lt j hj).1; omega
        have hsame : ∀ o, w6.cell? ⟨W.heap.size, o, none⟩ = X.cell? ⟨W.heap.size, o, none⟩ ∧ w6.frozen? ⟨W.heap.size, o, none⟩ = X.frozen? ⟨W.heap.size, o, none⟩ := fun o => by
          have heq : w6.heap[W.heap.size]? = X.heap[W.heap.size]? := by
            rw [hgrow6.block W.heap.size (by simp; omega) (fun q => hne6 _ q.symm rfl)]
            have hb := (Below.refl X.heap.size X).alloc (Nat.le_refl _) (.cells #[.int .i64 pl, .string dt, .string sn] 46)
            exact hb.block W.heap.size hWX
          exact ⟨by simp only [World.cell?, heq], by simp only [World.frozen?, heq]⟩
        have HB6 : Hid (Below W.heap.size W w6) := by
          have h1 : Below W.heap.size W w6 := ln_own (own_low (HOX.out.alloc _)) (HBX.out.alloc HBX.out.size _) (by simp; omega) hgrow6
          exact h1
        have hraw : w6.ownsRow (W.heap.size + 1) 46 3 (.slice (some ⟨g, 0, none⟩) (R.length + 1) cp) (evictL (ls.take (k + 1)) (p : Int)).length (cellsOfLines (evictL (ls.take (k + 1)) (p : Int))) := by
          rw [HLn.out, cellsOfLines_snoc]
          simpa using hown6
        have HO6 : Hid (w6.ownsRow (W.heap.size + 1) 46 3 (.slice (some ⟨g, 0, none⟩) (R.length + 1) cp) (evictL (ls.take (k + 1)) (p : Int)).length (cellsOfLines (evictL (ls.take (k + 1)) (p : Int)))) := hraw
        have d0 : w6.cell? ⟨W.heap.size, 0, none⟩ = some (.string st) := by rw [(hsame 0).1]; exact b0
        have d1 : w6.cell? ⟨W.heap.size, 1, none⟩ = some u := by rw [(hsame 1).1]; exact b1
        have e0 : w6.frozen? ⟨W.heap.size, 0, none⟩ = false := by rw [(hsame 0).2]; exact g0
        have e1 : w6.frozen? ⟨W.heap.size, 1, none⟩ = false := by rw [(hsame 1).2]; exact g1
        have hgW : W.heap.size + 1 ≤ g := by
          rcases hraw.2 with ⟨q, _⟩ | ⟨g2, _, _, q, hb, _⟩
          · cases q
          · injection q with q1; injection q1 with q2; injection q2 with q3; omega
        clear hraw hown6 hgrow6 hat6 hlt6 x0 x1 x2 b0 b1 g0 g1 hsame hne6 c0 c1 c2
        go_wp2
        go_roundw
        case rel =>
          refine ⟨k + 1, .slice (some ⟨g, 0, none⟩) (R.length + 1) cp, by omega, by go_num, ?_, ?_, ?_, ?_, ?_, ?_⟩
          · rw [HSt.out, World.cell?_setCell_other _ _ _ _ (fun q => by have := congrArg Addr.off q; simp at this)]; exact d0
          · exact World.cell?_setCell_same _ _ _ d1
          · rw [World.frozen?_setCell]; exact e0
          · rw [World.frozen?_setCell]; exact e1
          · exact HO6.out.kept (grown_set _ W.heap.size 1 _) (.inr (fun q => by
              have q2 : some g = some W.heap.size := q
              injection q2 with q3
              omega))
          · exact HB6.out.setCell (p := ⟨W.heap.size, 1, none⟩) (Nat.le_refl _) _
        case measure => simp [intOf]; omega
    · have he : ls.take k = ls := List.take_of_length_le (by omega)
      rw [he] at m0 HO
      obtain ⟨aa, cp, rfl⟩ := row_shape HO.out
      have t0 := HS.out.res0 wr HB.out; have t1 := HS.out.res1 wr HB.out; have y0 := HS.out.fro0 wr HB.out; have y1 := HS.out.fro1 wr HB.out
      have HE : Hid (Ended w wr) := HS.out.ended HB.out
      have q0 := HE.out.at0; have q1 := HE.out.at1
      have HRK : Hid (_) := row_kept3 (w := w) (by have := HWS.out; omega) HO.out
      go_wp2
      refine bodyPost_ret (v := .agg #[.string (evictS safe ls (p : Int)), .slice aa (evictL ls (p : Int)).length cp]) (by simp [results, Try.results53, go_sem, q0, q1]) rfl ?_
      exact ⟨_, rfl, HRK.out _ _, HE.out.below _ _⟩
end Go.Proofs.Ytgpmpijaggnocaa.dev
