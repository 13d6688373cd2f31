/-
  What the specification's l2Store returns: the lines with one of them changed, or with one more, in new memory; nothing that was there is written.
-/
import Derived.Test.YtgpmpijaggnocaaStore4
namespace Go.Proofs.Ytgpmpijaggnocaa.dev
open Go.RowKit Go.Maps
open bb later

/-- One line more behind what a box holds, before it is stored there. -/
theorem app_step {W X w6 : World} {u : Value} {L : List Ln} {l : Ln} {g cp : Nat} {st : ByteArray} {T : TypeId} (hO : X.ownsRow (W.heap.size + 1) 46 3 u L.length (cellsOfLines L)) (hB : Below W.heap.size W X) (hWX : W.heap.size < X.heap.size)
    (b0 : X.cell? ⟨W.heap.size, 0, none⟩ = some (.string st)) (b1 : X.cell? ⟨W.heap.size, 1, none⟩ = some u) (g1 : X.frozen? ⟨W.heap.size, 1, none⟩ = false)
    (hown6 : w6.ownsRow (W.heap.size + 1) 46 3 (.slice (some ⟨g, 0, none⟩) (L.length + 1) cp) (L.length + 1) (cellsOfLines L ++ [.int .i64 l.place, .string l.data, .string l.sent])) (hgrow6 : (X.alloc (.cells #[.int .i64 l.place, .string l.data, .string l.sent] T)).grownBy w6 u.ownBlock) :
    w6.ownsRow (W.heap.size + 1) 46 3 (.slice (some ⟨g, 0, none⟩) (L.length + 1) cp) (L ++ [l]).length (cellsOfLines (L ++ [l])) ∧ Below W.heap.size W w6 ∧ w6.cell? ⟨W.heap.size, 0, none⟩ = some (.string st) ∧ w6.cell? ⟨W.heap.size, 1, none⟩ = some u ∧ w6.frozen? ⟨W.heap.size, 1, none⟩ = false ∧ W.heap.size + 1 ≤ g := by
  have hne6 : ∀ j, u.ownBlock = some j → W.heap.size ≠ j := fun j hj q => by have := (hO.lt j hj).1; omega
  have heq : w6.heap[W.heap.size]? = X.heap[W.heap.size]? := by
    rw [hgrow6.block W.heap.size (by simp; omega) (fun q => hne6 _ q.symm rfl)]
    have hb := (Below.refl X.heap.size X).alloc (Nat.le_refl _) (.cells #[.int .i64 l.place, .string l.data, .string l.sent] T)
    exact hb.block W.heap.size hWX
  have hraw : w6.ownsRow (W.heap.size + 1) 46 3 (.slice (some ⟨g, 0, none⟩) (L.length + 1) cp) (L ++ [l]).length (cellsOfLines (L ++ [l])) := by
    rw [cellsOfLines_snoc]
    simpa using hown6
  refine ⟨hraw, ln_own (own_low (hO.alloc _)) (hB.alloc hB.size _) (by simp; omega) hgrow6, ?_, ?_, ?_, ?_⟩
  · simp only [World.cell?, heq] at b0 ⊢; exact b0
  · simp only [World.cell?, heq] at b1 ⊢; exact b1
  · simp only [World.frozen?, heq] at g1 ⊢; exact g1
  · rcases hraw.2 with ⟨q, _⟩ | ⟨g2, _, _, q, hb, _⟩
    · cases q
    · injection q with q1; injection q1 with q2; injection q2 with q3; omega
/-- The box, stored into. -/
theorem box_set {W w6 : World} {u : Value} {L : List Ln} {g n cp : Nat} {st : ByteArray} (hO : w6.ownsRow (W.heap.size + 1) 46 3 (.slice (some ⟨g, 0, none⟩) n cp) L.length (cellsOfLines L)) (hB : Below W.heap.size W w6) (d0 : w6.cell? ⟨W.heap.size, 0, none⟩ = some (.string st)) (d1 : w6.cell? ⟨W.heap.size, 1, none⟩ = some u) (f1 : w6.frozen? ⟨W.heap.size, 1, none⟩ = false) (hg : W.heap.size + 1 ≤ g) :
    (w6.setCell ⟨W.heap.size, 1, none⟩ (.slice (some ⟨g, 0, none⟩) n cp)).cell? ⟨W.heap.size, 0, none⟩ = some (.string st) ∧ (w6.setCell ⟨W.heap.size, 1, none⟩ (.slice (some ⟨g, 0, none⟩) n cp)).cell? ⟨W.heap.size, 1, none⟩ = some (.slice (some ⟨g, 0, none⟩) n cp) ∧ (w6.setCell ⟨W.heap.size, 1, none⟩ (.slice (some ⟨g, 0, none⟩) n cp)).frozen? ⟨W.heap.size, 1, none⟩ = false ∧ (w6.setCell ⟨W.heap.size, 1, none⟩ (.slice (some ⟨g, 0, none⟩) n cp)).ownsRow (W.heap.size + 1) 46 3 (.slice (some ⟨g, 0, none⟩) n cp) L.length (cellsOfLines L) ∧ Below W.heap.size W (w6.setCell ⟨W.heap.size, 1, none⟩ (.slice (some ⟨g, 0, none⟩) n cp)) := by
  refine ⟨?_, World.cell?_setCell_same _ _ _ d1, by rw [World.frozen?_setCell]; exact f1, ?_, hB.setCell (p := ⟨W.heap.size, 1, none⟩) (Nat.le_refl _) _⟩
  · rw [World.cell?_setCell_other _ _ _ _ (fun q => by have := congrArg Addr.off q; simp at this)]; exact d0
  · exact hO.kept (grown_set _ W.heap.size 1 _) (.inr (fun q => by
      have q2 : some g = some W.heap.size := q
      injection q2 with q3
      omega))

/-- What another block held stays, through a call, an append and a store into the box. -/
theorem far_kept {X w5 w6 : World} {u v : Value} {b i B : Nat} {cs : Array Value} {T : TypeId} {S : Value} (hb5 : Below X.drew.heap.size X.drew w5) (hg : (w5.alloc (.cells cs T)).grownBy w6 u.ownBlock) (hu : ∀ j, u.ownBlock = some j → j < b) (hB : B ≠ b) (h : X.cell? ⟨b, i, none⟩ = some v) : (w6.setCell ⟨B, 1, none⟩ S).cell? ⟨b, i, none⟩ = some v := by
  have hlt : b < X.heap.size := World.block_lt_of_cell? X _ h
  have h' : Below X.heap.size X w5 := ⟨hb5.os, hb5.tape, hb5.output, hb5.size, hb5.block⟩
  have h5 : w5.cell? ⟨b, i, none⟩ = some v := by rw [h'.cell (p := ⟨b, i, none⟩) hlt]; exact h
  have hlt5 : b < w5.heap.size := World.block_lt_of_cell? w5 _ h5
  have heq : w6.heap[b]? = w5.heap[b]? := by
    rw [hg.block b (by simp; omega) (fun q => by have := hu _ q.symm; omega)]
    exact ((Below.refl w5.heap.size w5).alloc (Nat.le_refl _) (.cells cs T)).block b hlt5
  rw [World.cell?_setCell_other _ _ _ _ (fun q => by have := congrArg Addr.block q; simp at this; exact hB this)]
  simp only [World.cell?, heq] at h5 ⊢
  exact h5
set_option maxHeartbeats 16000000 in
theorem l2Store_any (w : World) (safe : ByteArray) (a : Option Addr) (cap : Nat) (ls : List Ln) (A : Int) (p o : Nat) (d : ByteArray) (hA : A = ((64 * p + o : Nat) : Int)) (hs : safe.size ≤ 1048576) (hn : ls.length ≤ 1048576) (hl : Lines w a ls) (hok : DevOk safe ls) (hp : p < safe.size / 64) (hd1 : o + d.size ≤ 64) (ho : o < 64) :
    Calls Try.prog 43 #[.agg #[.string safe, .slice a ls.length cap], .int .i64 A, .string d] w fun e w' => ∃ u, e = .returned (.agg #[.string safe, u]) ∧ w'.ownsRow (w.heap.size + 3) 46 3 u (storeL safe ls p o d).length (cellsOfLines (storeL safe ls p o d)) ∧ Below w.heap.size w w' := by
  obtain ⟨i0, hi, hzz⟩ := Option.map_eq_some_iff.1 infoLine
  simp only [Prod.mk.injEq] at hzz
  obtain ⟨hz0, hz1, hz2⟩ := hzz
  obtain ⟨W, hW⟩ : ∃ W, W = start w safe (.slice a ls.length cap) := ⟨_, rfl⟩
  have HS : Hid (Start w W safe (.slice a ls.length cap)) := by rw [hW]; exact start_is _ _ _
  have HW : Hid (W = (w.alloc (.cells #[.string safe, .slice a ls.length cap] 26)).alloc (.cells #[.string ⟨#[]⟩, .slice none 0 0] 26)) := hW
  have HL : Hid (∀ w', Below W.heap.size W w' → Lines w' a ls) := fun w' h => (hl.below HS.out.below).below h
  have HOK : Hid (DevOk safe ls) := hok
  have HPW : Hid (ls.Pairwise (fun a b => a.place < b.place)) := ok_pairwise hok
  have HWS : Hid (W.heap.size = w.heap.size + 2) := HS.out.size
  obtain ⟨V, hV⟩ : ∃ V, V = W.alloc (.cells #[.string safe, .slice none 0 0] 26) := ⟨_, rfl⟩
  have HBV : Hid (Below W.heap.size W V) := by
    have h1 : Below W.heap.size W V := by rw [hV]; exact (Below.refl _ _).alloc (Nat.le_refl _) _
    exact h1
  have v0 : V.cell? ⟨W.heap.size, 0, none⟩ = some (.string safe) := by rw [hV, World.cell?_alloc_new]; rfl
  have v1 : V.cell? ⟨W.heap.size, 1, none⟩ = some (.slice none 0 0) := by rw [hV, World.cell?_alloc_new]; rfl
  have v2 : V.frozen? ⟨W.heap.size, 1, none⟩ = false := by rw [hV]; exact World.frozen?_alloc_new _ _ _ _
  have HV : Hid (V = W.alloc (.cells #[.string safe, .slice none 0 0] 26)) := hV
  have n0 := HS.out.arg0 W (Below.refl _ _); have n1 := HS.out.arg1 W (Below.refl _ _)
  have a0 : 0 ≤ A := by omega
  have a1 : A ≤ 1048576 := by omega
  have e1 : A / 64 = (p : Int) := by omega
  have E2 : Hid (A % 64 = (o : Int)) := by show A % 64 = (o : Int); omega
  have HLW : Hid (∀ (s : ByteArray), s.size = 64 → ∀ w, Calls Try.prog 56 #[.string s, .int .i64 (A % 64), .string d] w fun e w' => e = .returned (.string (withAt s o d)) ∧ Below w.heap.size w w') := fun s h w => by
    rw [E2.out]; exact l2With_any w s o d (by omega) (by omega)
  have h64 : 64 * p + 64 ≤ safe.size := by omega
  clear hl hW hok hV hA hp
  obtain ⟨nw, hnw⟩ : ∃ nw, nw = storeNew safe ls p o d := ⟨_, rfl⟩
  have HNW : Hid (nw = storeNew safe ls p o d) := hnw
  clear hnw
  go_enter Try.func43, Try.ntmps43
  go_wp2_with (first | (rw [← HW.out]) | (rw [← HV.out]))
  clear n0 n1
  rw [e1]
  clear e1
  go_loopw [9, 10] (fun dn i wr => ∃ (k : Nat) (u : Value), k ≤ ls.length ∧ i = .int .i64 k ∧ dn = .bool (stDone ls p k) ∧ wr.cell? ⟨W.heap.size, 0, none⟩ = some (.string safe) ∧ wr.cell? ⟨W.heap.size, 1, none⟩ = some u ∧ wr.frozen? ⟨W.heap.size, 1, none⟩ = false ∧ wr.ownsRow (W.heap.size + 1) 46 3 u (stOut ls p nw k).length (cellsOfLines (stOut ls p nw k)) ∧ Below W.heap.size W wr) (fun _ i _ => ls.length - (intOf i).toNat)
  case atStart => exact ⟨0, _, Nat.zero_le _, rfl, rfl, v0, v1, v2, World.ownsRow_nil _ _ _ _, HBV.out⟩
  case round =>
    clear v0 v1 v2
    obtain ⟨k, u, hk, rfl, rfl, m0, m1, f1, hown, hb⟩ := hrel
    have HO : Hid (wr.ownsRow (W.heap.size + 1) 46 3 u (stOut ls p nw k).length (cellsOfLines (stOut ls p nw k))) := hown
    have HB : Hid (Below W.heap.size W wr) := hb
    clear hown hb
    have n0 := HS.out.arg0 wr HB.out; have n1 := HS.out.arg1 wr HB.out
    have hWr : W.heap.size < wr.heap.size := World.block_lt_of_cell? wr _ m0
    have hle := stOut_le ls p nw k
    by_cases hlt : k < ls.length
    · have hlk := HOK.out.2.2.2 k hlt
      have c_less := stOut_less (p := p) nw hlt
      have c_same := stOut_same (p := p) nw hlt
      have c_more := stOut_more (p := p) nw hlt
      have c_aft := stOut_after (p := p) nw hlt
      have c_yes := fun h => stDone_yes (p := p) h HPW.out hlt
      have c_new := fun h => new_same safe (p := p) o d HPW.out hlt h
      have c_pas := fun h1 h2 => passed (p := p) HPW.out hlt h1 h2
      obtain ⟨bb, off, rfl, c0, c1, c2⟩ := HL.out wr HB.out k hlt
      generalize ls[k] = l at c0 c1 c2 hlk c_less c_same c_more c_aft c_yes c_new c_pas
      obtain ⟨pl, dt, sn⟩ := l
      simp only at c0 c1 c2 c_less c_same c_more c_aft c_yes c_new c_pas
      obtain ⟨_, hp0, hp1, hd64, _⟩ := hlk
      simp only at hp0 hp1 hd64
      have hlti : (k : Int) < (ls.length : Int) := by omega
      obtain ⟨X, hX⟩ : ∃ X, X = wr.alloc (.cells #[.int .i64 pl, .string dt, .string sn] 46) := ⟨_, rfl⟩
      have hBX : Below wr.heap.size wr X := by rw [hX]; exact (Below.refl _ _).alloc (Nat.le_refl _) _
      have HBX : Hid (Below W.heap.size W X) := HB.out.trans (hBX.mono HB.out.size)
      have HOX : Hid (X.ownsRow (W.heap.size + 1) 46 3 u (stOut ls p nw k).length (cellsOfLines (stOut ls p nw k))) := ln_below HO.out hBX
      have x0 : X.cell? ⟨wr.heap.size, 0, none⟩ = some (.int .i64 pl) := by rw [hX, World.cell?_alloc_new]; rfl
      have x1 : X.cell? ⟨wr.heap.size, 1, none⟩ = some (.string dt) := by rw [hX, World.cell?_alloc_new]; rfl
      have x2 : X.cell? ⟨wr.heap.size, 2, none⟩ = some (.string sn) := by rw [hX, World.cell?_alloc_new]; rfl
      have xf : X.frozen? ⟨wr.heap.size, 1, none⟩ = false := by rw [hX]; exact World.frozen?_alloc_new _ _ _ _
      have b0 : X.cell? ⟨W.heap.size, 0, none⟩ = some (.string safe) := by rw [hBX.cell (p := ⟨W.heap.size, 0, none⟩) hWr]; exact m0
      have b1 : X.cell? ⟨W.heap.size, 1, none⟩ = some u := by rw [hBX.cell (p := ⟨W.heap.size, 1, none⟩) hWr]; exact m1
      have g1 : X.frozen? ⟨W.heap.size, 1, none⟩ = false := by rw [hBX.frozen (p := ⟨W.heap.size, 1, none⟩) hWr]; exact f1
      have hWX : W.heap.size < X.heap.size := Nat.lt_of_lt_of_le hWr hBX.size
      have HX : Hid (X = wr.alloc (.cells #[.int .i64 pl, .string dt, .string sn] 46)) := hX
      have HOR : Hid (∀ j, u.ownBlock = some j → j < wr.heap.size) := fun j hj => (HO.out.lt j hj).2
      clear hX hBX HO m0 m1 f1 hp0 hp1
      cases hdn : stDone ls p k with
      | true =>
        have hgt := c_yes hdn
        obtain ⟨s1, s2⟩ := c_aft hdn hgt
        have HS1 : Hid (stDone ls p (k + 1) = true) := s1
        have HS2 : Hid (stOut ls p nw (k + 1) = stOut ls p nw k ++ [⟨pl, dt, sn⟩]) := s2
        have hpe : (pl == (p : Int)) = false := by simp; omega
        clear c_less c_same c_more c_aft c_yes c_new c_pas s1 s2 hdn hgt
        generalize stOut ls p nw k = R at HOX HS2 hle
        go_wp2_with (first | (rw [← HX.out]) | (at_builtin; refine wpList_append_lies _ rfl _ _ 24 rfl (W.heap.size + 1) 46 i0 (.agg #[.int .i64 0, .string ⟨#[]⟩, .string ⟨#[]⟩]) 3 40 Try.underlying24 hi hz0 hz1 hz2 rfl (by decide) _ _ _ rfl (HOX.out.alloc _) ⟨X.heap.size, 0, none⟩ 1 1 [.int .i64 pl, .string dt, .string sn] rfl rfl ?c1x ?c2x (by decide) ?c3x ?c4x ?c5x _ rfl ?_))
        all_goals try (case c1x =>
          intro j u hj
          match j, hj with
          | 0, hj => simp at hj; subst hj; simp [Addr.add]
          | 1, hj => simp at hj; subst hj; simp [Addr.add]
          | 2, hj => simp at hj; subst hj; simp [Addr.add])
        case c2x => first | exact ⟨rfl, rfl, rfl⟩ | (intro u hu; simp at hu; rcases hu with rfl | rfl | rfl <;> rfl)
        case c3x => unfold maxLen; omega
        case c4x => omega
        case c5x => first | omega | (simp; omega)
        intro g cp w6 hown6 hgrow6 hat6 hlt6
        obtain ⟨HO6, HB6, d0, d1, e1', hgW⟩ := app_step (L := R) (l := ⟨pl, dt, sn⟩) HOX.out HBX.out hWX b0 b1 g1 hown6 hgrow6
        have HO6' : Hid (_) := HO6
        have HB6' : Hid (Below W.heap.size W w6) := HB6
        clear hown6 hgrow6 hat6 hlt6 b0 b1 g1 HO6 HB6
        go_wp2
        go_roundw
        case rel =>
          obtain ⟨k0, k1, k2, k3, k4⟩ := box_set HO6'.out HB6'.out d0 d1 e1' hgW
          exact ⟨k + 1, .slice (some ⟨g, 0, none⟩) (R.length + 1) cp, by omega, by go_num, by rw [HS1.out], k0, k1, k2, by rw [HS2.out]; exact k3, k4⟩
        case measure => simp [intOf]; omega
      | false =>
        by_cases hlo : pl < (p : Int)
        · obtain ⟨s1, s2⟩ := c_less hdn hlo
          have HS1 : Hid (stDone ls p (k + 1) = false) := s1
          have HS2 : Hid (stOut ls p nw (k + 1) = stOut ls p nw k ++ [⟨pl, dt, sn⟩]) := s2
          have hpe : (pl == (p : Int)) = false := by simp; omega
          have hgt : ¬ (p : Int) < pl := by omega
          clear c_less c_same c_more c_aft c_yes c_new c_pas s1 s2 hdn hlo
          generalize stOut ls p nw k = R at HOX HS2 hle
          go_wp2_with (first | (rw [← HX.out]) | (at_builtin; refine wpList_append_lies _ rfl _ _ 24 rfl (W.heap.size + 1) 46 i0 (.agg #[.int .i64 0, .string ⟨#[]⟩, .string ⟨#[]⟩]) 3 40 Try.underlying24 hi hz0 hz1 hz2 rfl (by decide) _ _ _ rfl (HOX.out.alloc _) ⟨X.heap.size, 0, none⟩ 1 1 [.int .i64 pl, .string dt, .string sn] rfl rfl ?c1y ?c2y (by decide) ?c3y ?c4y ?c5y _ rfl ?_))
          all_goals try (case c1y =>
            intro j u hj
            match j, hj with
            | 0, hj => simp at hj; subst hj; simp [Addr.add]
            | 1, hj => simp at hj; subst hj; simp [Addr.add]
            | 2, hj => simp at hj; subst hj; simp [Addr.add])
          case c2y => first | exact ⟨rfl, rfl, rfl⟩ | (intro u hu; simp at hu; rcases hu with rfl | rfl | rfl <;> rfl)
          case c3y => unfold maxLen; omega
          case c4y => omega
          case c5y => first | omega | (simp; omega)
          intro g cp w6 hown6 hgrow6 hat6 hlt6
          obtain ⟨HO6, HB6, d0, d1, e1', hgW⟩ := app_step (L := R) (l := ⟨pl, dt, sn⟩) HOX.out HBX.out hWX b0 b1 g1 hown6 hgrow6
          have HO6' : Hid (_) := HO6
          have HB6' : Hid (Below W.heap.size W w6) := HB6
          clear hown6 hgrow6 hat6 hlt6 b0 b1 g1 HO6 HB6
          go_wp2
          go_roundw
          case rel =>
            obtain ⟨k0, k1, k2, k3, k4⟩ := box_set HO6'.out HB6'.out d0 d1 e1' hgW
            exact ⟨k + 1, .slice (some ⟨g, 0, none⟩) (R.length + 1) cp, by omega, by go_num, by rw [HS1.out], k0, k1, k2, by rw [HS2.out]; exact k3, k4⟩
          case measure => simp [intOf]; omega
        · by_cases heq : pl = (p : Int)
          · obtain ⟨s1, s2⟩ := c_same hdn heq
            have hnn := c_new heq
            rw [← HNW.out] at hnn
            subst heq
            have HS1 : Hid (stDone ls p (k + 1) = true) := s1
            have HS2 : Hid (stOut ls p nw (k + 1) = stOut ls p nw k ++ [⟨(p : Int), withAt dt o d, sn⟩]) := by
              show stOut ls p nw (k + 1) = stOut ls p nw k ++ [⟨(p : Int), withAt dt o d, sn⟩]
              rw [s2]; congr 1; rw [hnn]
            have hpe : ((p : Int) == (p : Int)) = true := by simp
            have hgt : ¬ (p : Int) < (p : Int) := by omega
            have HLW2 : Hid (∀ w, Calls _ _ _ w _) := HLW.out dt hd64
            clear c_less c_same c_more c_aft c_yes c_new c_pas s1 s2 hdn hlo hnn
            generalize stOut ls p nw k = R at HOX HS2 hle
            generalize withAt dt o d = nd at HS2 HLW2
            go_wp2_with (first | (rw [← HX.out]) | fail)
            refine (HLW2.out _).mono ?_
            rintro e w5 ⟨rfl, hb5⟩
            have HB5 : Hid (Below W.heap.size W w5) := HBX.out.trans (hb5.mono HBX.out.size)
            have hXr : wr.heap.size < X.heap.size := World.block_lt_of_cell? X _ x0
            have q0 : w5.cell? ⟨wr.heap.size, 0, none⟩ = some (.int .i64 (p : Int)) := by rw [hb5.cell (p := ⟨wr.heap.size, 0, none⟩) hXr]; exact x0
            have q1 : w5.cell? ⟨wr.heap.size, 1, none⟩ = some (.string dt) := by rw [hb5.cell (p := ⟨wr.heap.size, 1, none⟩) hXr]; exact x1
            have q2 : w5.cell? ⟨wr.heap.size, 2, none⟩ = some (.string sn) := by rw [hb5.cell (p := ⟨wr.heap.size, 2, none⟩) hXr]; exact x2
            have qf : w5.frozen? ⟨wr.heap.size, 1, none⟩ = false := by rw [hb5.frozen (p := ⟨wr.heap.size, 1, none⟩) hXr]; exact xf
            have t0 : w5.cell? ⟨W.heap.size, 0, none⟩ = some (.string safe) := by rw [hb5.cell (p := ⟨W.heap.size, 0, none⟩) hWX]; exact b0
            have t1 : w5.cell? ⟨W.heap.size, 1, none⟩ = some u := by rw [hb5.cell (p := ⟨W.heap.size, 1, none⟩) hWX]; exact b1
            have t2 : w5.frozen? ⟨W.heap.size, 1, none⟩ = false := by rw [hb5.frozen (p := ⟨W.heap.size, 1, none⟩) hWX]; exact g1
            have HO5 : Hid (w5.ownsRow (W.heap.size + 1) 46 3 u R.length (cellsOfLines R)) := ln_below HOX.out hb5
            obtain ⟨Y, hY⟩ : ∃ Y, Y = w5.setCell ⟨wr.heap.size, 1, none⟩ (.string nd) := ⟨_, rfl⟩
            have hYg : w5.grownBy Y (some wr.heap.size) := by rw [hY]; exact grown_set _ _ _ _
            have hne : ∀ b i : Nat, (b ≠ wr.heap.size ∨ i ≠ 1) → Y.cell? ⟨b, i, none⟩ = w5.cell? ⟨b, i, none⟩ := fun b i h => by
              rw [hY]
              exact World.cell?_setCell_other _ _ _ _ (fun q => by
                have q1 := congrArg Addr.block q
                have q2 := congrArg Addr.off q
                simp only at q1 q2
                omega)
            have y0 : Y.cell? ⟨wr.heap.size, 0, none⟩ = some (.int .i64 (p : Int)) := by rw [hne _ 0 (.inr (by omega))]; exact q0
            have y1 : Y.cell? ⟨wr.heap.size, 1, none⟩ = some (.string nd) := by rw [hY]; exact World.cell?_setCell_same _ _ _ q1
            have y2 : Y.cell? ⟨wr.heap.size, 2, none⟩ = some (.string sn) := by rw [hne _ 2 (.inr (by omega))]; exact q2
            have s0 : Y.cell? ⟨W.heap.size, 0, none⟩ = some (.string safe) := by rw [hne _ 0 (.inl (by omega))]; exact t0
            have s1 : Y.cell? ⟨W.heap.size, 1, none⟩ = some u := by rw [hne _ 1 (.inl (by omega))]; exact t1
            have s2 : Y.frozen? ⟨W.heap.size, 1, none⟩ = false := by rw [hY, World.frozen?_setCell]; exact t2
            have hYs : W.heap.size < Y.heap.size := World.block_lt_of_cell? Y _ s0
            have HOY : Hid (Y.ownsRow (W.heap.size + 1) 46 3 u R.length (cellsOfLines R)) := HO5.out.kept hYg (by
              rcases hv : u.ownBlock with _ | j
              · exact .inl rfl
              · refine .inr (fun q => ?_)
                have h1 := HOR.out j hv
                injection q with q
                omega)
            have HBY : Hid (Below W.heap.size W Y) := HB5.out.trans (below_of_grown hYg HB5.out.size (by omega))
            have HY : Hid (Y = w5.setCell ⟨wr.heap.size, 1, none⟩ (.string nd)) := hY
            clear hY hYg hne hb5 q0 q2 t0 t1 t2 x0 x1 x2 xf b0 b1 g1 HOX HBX hWX
            have HOX := HOY
            have HBX := HBY
            have b0 := s0
            have b1 := s1
            have g1 := s2
            have hWX := hYs
            go_wp2_with (first | (rw [← HY.out]) | (at_builtin; refine wpList_append_lies _ rfl _ _ 24 rfl (W.heap.size + 1) 46 i0 (.agg #[.int .i64 0, .string ⟨#[]⟩, .string ⟨#[]⟩]) 3 40 Try.underlying24 hi hz0 hz1 hz2 rfl (by decide) _ _ _ rfl (HOX.out.alloc _) ⟨Y.heap.size, 0, none⟩ 1 1 [.int .i64 (p : Int), .string nd, .string sn] rfl rfl ?c1z ?c2z (by decide) ?c3z ?c4z ?c5z _ rfl ?_))
            all_goals try (case c1z =>
              intro j u hj
              match j, hj with
              | 0, hj => simp at hj; subst hj; simp [Addr.add]
              | 1, hj => simp at hj; subst hj; simp [Addr.add]
              | 2, hj => simp at hj; subst hj; simp [Addr.add])
            case c2z => first | exact ⟨rfl, rfl, rfl⟩ | (intro u hu; simp at hu; rcases hu with rfl | rfl | rfl <;> rfl)
            case c3z => unfold maxLen; omega
            case c4z => omega
            case c5z => first | omega | (simp; omega)
            intro g cp w6 hown6 hgrow6 hat6 hlt6
            obtain ⟨HO6, HB6, d0, d1, e1', hgW⟩ := app_step (L := R) (l := ⟨(p : Int), nd, sn⟩) HOX.out HBX.out hWX b0 b1 g1 hown6 hgrow6
            have HO6' : Hid (_) := HO6
            have HB6' : Hid (Below W.heap.size W w6) := HB6
            clear hown6 hgrow6 hat6 hlt6 b0 b1 g1 HO6 HB6
            go_wp2
            go_roundw
            case rel =>
              obtain ⟨k0, k1, k2, k3, k4⟩ := box_set HO6'.out HB6'.out d0 d1 e1' hgW
              exact ⟨k + 1, .slice (some ⟨g, 0, none⟩) (R.length + 1) cp, by omega, by go_num, by rw [HS1.out], k0, k1, k2, by rw [HS2.out]; exact k3, k4⟩
            case measure => simp [intOf]; omega
          · have hgt : (p : Int) < pl := by omega
            obtain ⟨s1, s2⟩ := c_more hdn hgt
            have hnn := new_none safe o d (c_pas hdn hgt)
            rw [← HNW.out] at hnn
            have HS1 : Hid (stDone ls p (k + 1) = true) := s1
            have HS2 : Hid (stOut ls p nw (k + 1) = stOut ls p nw k ++ [⟨(p : Int), withAt (safe.extract (64 * p) (64 * p + 64)) o d, ⟨#[]⟩⟩] ++ [⟨pl, dt, sn⟩]) := by
              show stOut ls p nw (k + 1) = stOut ls p nw k ++ [⟨(p : Int), withAt (safe.extract (64 * p) (64 * p + 64)) o d, ⟨#[]⟩⟩] ++ [⟨pl, dt, sn⟩]
              rw [s2, hnn]; rfl
            have hpe : (pl == (p : Int)) = false := by simp; omega
            have HLI : Hid (∀ w, Calls _ _ _ w _) := HLW.out (safe.extract (64 * p) (64 * p + 64)) (by rw [ByteArray.size_extract]; omega)
            clear c_less c_same c_more c_aft c_yes c_new c_pas s1 s2 hdn hlo hnn heq
            generalize stOut ls p nw k = R at HOX HS2 hle
            generalize withAt (safe.extract (64 * p) (64 * p + 64)) o d = nd at HS2 HLI
            go_wp2_with (rw [← HX.out])
            have HF5 : Hid (∀ w5, Below X.drew.heap.size X.drew w5 → w5.ownsRow (W.heap.size + 1) 46 3 u R.length (cellsOfLines R) ∧ Below W.heap.size W w5 ∧ W.heap.size < w5.heap.size ∧ w5.cell? ⟨W.heap.size, 0, none⟩ = some (.string safe) ∧ w5.cell? ⟨W.heap.size, 1, none⟩ = some u ∧ w5.frozen? ⟨W.heap.size, 1, none⟩ = false ∧ w5.cell? ⟨w.heap.size, 0, none⟩ = some (.string safe)) := fun w5 h => by
              have h' : Below X.heap.size X w5 := ⟨h.os, h.tape, h.output, h.size, h.block⟩
              exact ⟨ln_below HOX.out h', HBX.out.trans (h'.mono HBX.out.size), Nat.lt_of_lt_of_le hWX h'.size, by rw [h'.cell (p := ⟨W.heap.size, 0, none⟩) hWX]; exact b0, by rw [h'.cell (p := ⟨W.heap.size, 1, none⟩) hWX]; exact b1, by rw [h'.frozen (p := ⟨W.heap.size, 1, none⟩) hWX]; exact g1, HS.out.arg0 w5 (HBX.out.trans (h'.mono HBX.out.size))⟩
            have H63 : Hid (R.length + 1 ≤ maxLen) := by show R.length + 1 ≤ maxLen; unfold maxLen; omega
            have H40 : Hid ((R.length + 1) * 40 ≤ 140737488355328) := by show (R.length + 1) * 40 ≤ 140737488355328; omega
            have H1C : Hid (∀ v ∈ [Value.int .i64 (p : Int), .string nd, .string ⟨#[]⟩], v.oneCell' = true) := fun v hv => by simp at hv; rcases hv with rfl | rfl | rfl <;> rfl
            have hw64 : IntKind.i64.wrap (64 * (p : Int)) = 64 * (p : Int) := by rw [IntKind.wrap_i64]; omega
            have hw65 : IntKind.i64.wrap (64 * (p : Int) + 64) = 64 * (p : Int) + 64 := by rw [IntKind.wrap_i64]; omega
            have h64i : 64 * (p : Int) + 64 ≤ (safe.size : Int) := by omega
            have n0X := HS.out.arg0 X HBX.out
            have tm : A.tmod 64 = A % 64 := Int.tmod_eq_emod_of_nonneg a0
            have u1 : 0 ≤ 64 * (p : Int) := by omega
            have u2 : 0 ≤ 64 * (p : Int) + 64 := by omega
            have u3 : 64 * (p : Int) ≤ 64 * (p : Int) + 64 := by omega
            have u4 : (64 * (p : Int)).toNat = 64 * p := by omega
            have u5 : (64 * (p : Int) + 64).toNat = 64 * p + 64 := by omega
            go_region_law ((first | (go_simp; go_at_call 56; refine (HLI.out X.drew).mono ?_; rintro e w5 ⟨rfl, hb5⟩; obtain ⟨o5, B5, z5, s0, s1, s2, a5⟩ := HF5.out w5 hb5) | (refine step_append_lies _ (by rfl) _ _ _ (by rfl) (W.heap.size + 1) 46 i0 (.agg #[.int .i64 0, .string ⟨#[]⟩, .string ⟨#[]⟩]) 3 40 Try.underlying24 hi hz0 hz1 hz2 rfl (by decide) u R.length (cellsOfLines R) (by rfl) (o5.alloc _) ⟨w5.heap.size, 0, none⟩ 1 1 [.int .i64 (p : Int), .string nd, .string ⟨#[]⟩] (by rfl) rfl (World.news_of_block (heap_alloc_new w5 _)) H1C.out (by decide) H63.out H40.out (Nat.le_trans z5 (by simp)) _ rfl ?_; intro g cp w6 hown6 hgrow6 hat6 hlt6; obtain ⟨HO6, HB6, d0, d1, e1', hgW⟩ := app_step (L := R) (l := ⟨(p : Int), nd, ⟨#[]⟩⟩) o5 B5 z5 s0 s1 s2 hown6 hgrow6)))
            all_goals
              obtain ⟨r0, r1, r2, r3, r4⟩ := box_set HO6 HB6 d0 d1 e1' hgW
              have l0 := far_kept (S := .slice (some ⟨g, 0, none⟩) (R.length + 1) cp) hb5 hgrow6 HOR.out (show W.heap.size ≠ wr.heap.size by omega) x0
              have l1 := far_kept (S := .slice (some ⟨g, 0, none⟩) (R.length + 1) cp) hb5 hgrow6 HOR.out (show W.heap.size ≠ wr.heap.size by omega) x1
              have l2 := far_kept (S := .slice (some ⟨g, 0, none⟩) (R.length + 1) cp) hb5 hgrow6 HOR.out (show W.heap.size ≠ wr.heap.size by omega) x2
              generalize w6.setCell ⟨W.heap.size, 1, none⟩ (.slice (some ⟨g, 0, none⟩) (R.length + 1) cp) = Y at r0 r1 r2 r3 r4 l0 l1 l2
              have HOY : Hid (Y.ownsRow (W.heap.size + 1) 46 3 (.slice (some ⟨g, 0, none⟩) (R.length + 1) cp) (R ++ [(⟨(p : Int), nd, ⟨#[]⟩⟩ : Ln)]).length (cellsOfLines (R ++ [(⟨(p : Int), nd, ⟨#[]⟩⟩ : Ln)]))) := r3
              have HBY : Hid (Below W.heap.size W Y) := r4
              have hYs : W.heap.size < Y.heap.size := World.block_lt_of_cell? Y _ r0
              clear hown6 hgrow6 hat6 hlt6 hb5 o5 B5 z5 s0 s1 s2 a5 HO6 HB6 d0 d1 e1' x0 x1 x2 xf b0 b1 g1 n0X n0 n1 u1 u2 u3 u4 u5 tm hw64 hw65 h64i c0 c1 c2 r3 r4
              generalize hR2 : R ++ [(⟨(p : Int), nd, ⟨#[]⟩⟩ : Ln)] = R2 at HOY HS2
              have hl2 : R2.length = R.length + 1 := by rw [← hR2]; simp
              clear hR2
              have H63b : Hid (R2.length + 1 ≤ maxLen) := by show R2.length + 1 ≤ maxLen; unfold maxLen; omega
              have H40b : Hid ((R2.length + 1) * 40 ≤ 140737488355328) := by show (R2.length + 1) * 40 ≤ 140737488355328; omega
              have H1Cb : Hid (∀ v ∈ [Value.int .i64 pl, .string dt, .string sn], v.oneCell' = true) := fun v hv => by simp at hv; rcases hv with rfl | rfl | rfl <;> rfl
              generalize Value.slice (some ⟨g, 0, none⟩) (R.length + 1) cp = u2 at HOY r1 ⊢
              clear hl2
              go_wp2_with (at_builtin; refine wpList_append_lies _ rfl _ _ 24 rfl (W.heap.size + 1) 46 i0 (.agg #[.int .i64 0, .string ⟨#[]⟩, .string ⟨#[]⟩]) 3 40 Try.underlying24 hi hz0 hz1 hz2 rfl (by decide) _ _ _ rfl (HOY.out.alloc _) ⟨Y.heap.size, 0, none⟩ 1 1 [.int .i64 pl, .string dt, .string sn] rfl rfl (World.news_of_block (heap_alloc_new Y _)) H1Cb.out (by decide) H63b.out H40b.out (Nat.le_trans hYs (by simp)) _ rfl ?_)
              intro g' cp' w7 hown7 hgrow7 hat7 hlt7
              obtain ⟨HO7, HB7, d0', d1', e1'', hgW'⟩ := app_step (L := R2) (l := ⟨pl, dt, sn⟩) HOY.out HBY.out hYs r0 r1 r2 hown7 hgrow7
              have HO7' : Hid (_) := HO7
              have HB7' : Hid (Below W.heap.size W w7) := HB7
              clear hown7 hgrow7 hat7 hlt7 HO7 HB7 r0 r1 r2 l0 l1 l2
              go_wp2
              go_roundw
              case rel =>
                obtain ⟨k0, k1, k2, k3, k4⟩ := box_set HO7'.out HB7'.out d0' d1' e1'' hgW'
                exact ⟨k + 1, .slice (some ⟨g', 0, none⟩) (R2.length + 1) cp', by omega, by go_num, by rw [HS1.out], k0, k1, k2, by rw [HS2.out]; exact k3, k4⟩
              case measure => simp [intOf]; omega
    · have hke : k = ls.length := by omega
      subst hke
      have hend := stOut_end safe ls p o d
      rw [← HNW.out] at hend
      cases hdn : stDone ls p ls.length with
      | true =>
        rw [hend.1 hdn] at HO
        obtain ⟨aa, cp, rfl⟩ := row_shape HO.out
        have t0 := HS.out.res0 wr HB.out; have t1 := HS.out.res1 wr HB.out; have y0 := HS.out.fro0 wr HB.out; have y1 := HS.out.fro1 wr HB.out
        have HE : Hid (Ended w wr) := HS.out.ended HB.out
        have q0 := HE.out.at0; have q1 := HE.out.at1
        have HRK : Hid (_) := row_kept3 (w := w) (by have := HWS.out; omega) HO.out
        clear hend hdn
        go_wp2
        refine bodyPost_ret (v := .agg #[.string safe, .slice aa (storeL safe ls p o d).length cp]) (by simp [results, Try.results43, go_sem, q0, q1]) rfl ?_
        exact ⟨_, rfl, HRK.out _ _, HE.out.below _ _⟩
      | false =>
        have hfin := hend.2 hdn
        have hnn := new_none safe (p := p) o d (fun l hl => by
          have := stDone_no hdn l (by rw [List.take_length]; exact hl)
          omega)
        rw [← HNW.out] at hnn
        have HFN : Hid (stOut ls p nw ls.length ++ [⟨(p : Int), withAt (safe.extract (64 * p) (64 * p + 64)) o d, ⟨#[]⟩⟩] = storeL safe ls p o d) := by
          show stOut ls p nw ls.length ++ [⟨(p : Int), withAt (safe.extract (64 * p) (64 * p + 64)) o d, ⟨#[]⟩⟩] = storeL safe ls p o d
          rw [← hfin, hnn]; rfl
        have HLI : Hid (∀ w, Calls _ _ _ w _) := HLW.out (safe.extract (64 * p) (64 * p + 64)) (by rw [ByteArray.size_extract]; omega)
        have HOX := HO
        have HBX := HB
        have b0 := m0
        have b1 := m1
        have g1 := f1
        have hWX := hWr
        clear hend hdn hfin hnn m0 m1 f1
        generalize stOut ls p nw ls.length = R at HOX HFN hle HO
        generalize withAt (safe.extract (64 * p) (64 * p + 64)) o d = nd at HFN HLI
        go_wp2
        have HF5 : Hid (∀ w5, Below wr.drew.heap.size wr.drew w5 → w5.ownsRow (W.heap.size + 1) 46 3 u R.length (cellsOfLines R) ∧ Below W.heap.size W w5 ∧ W.heap.size < w5.heap.size ∧ w5.cell? ⟨W.heap.size, 0, none⟩ = some (.string safe) ∧ w5.cell? ⟨W.heap.size, 1, none⟩ = some u ∧ w5.frozen? ⟨W.heap.size, 1, none⟩ = false ∧ w5.cell? ⟨w.heap.size, 0, none⟩ = some (.string safe)) := fun w5 h => by
          have h' : Below wr.heap.size wr w5 := ⟨h.os, h.tape, h.output, h.size, h.block⟩
          exact ⟨ln_below HOX.out h', HBX.out.trans (h'.mono HBX.out.size), Nat.lt_of_lt_of_le hWX h'.size, by rw [h'.cell (p := ⟨W.heap.size, 0, none⟩) hWX]; exact b0, by rw [h'.cell (p := ⟨W.heap.size, 1, none⟩) hWX]; exact b1, by rw [h'.frozen (p := ⟨W.heap.size, 1, none⟩) hWX]; exact g1, HS.out.arg0 w5 (HBX.out.trans (h'.mono HBX.out.size))⟩
        have H63 : Hid (R.length + 1 ≤ maxLen) := by show R.length + 1 ≤ maxLen; unfold maxLen; omega
        have H40 : Hid ((R.length + 1) * 40 ≤ 140737488355328) := by show (R.length + 1) * 40 ≤ 140737488355328; omega
        have H1C : Hid (∀ v ∈ [Value.int .i64 (p : Int), .string nd, .string ⟨#[]⟩], v.oneCell' = true) := fun v hv => by simp at hv; rcases hv with rfl | rfl | rfl <;> rfl
        have hw64 : IntKind.i64.wrap (64 * (p : Int)) = 64 * (p : Int) := by rw [IntKind.wrap_i64]; omega
        have hw65 : IntKind.i64.wrap (64 * (p : Int) + 64) = 64 * (p : Int) + 64 := by rw [IntKind.wrap_i64]; omega
        have h64i : 64 * (p : Int) + 64 ≤ (safe.size : Int) := by omega
        have n0X := HS.out.arg0 wr HBX.out
        have tm : A.tmod 64 = A % 64 := Int.tmod_eq_emod_of_nonneg a0
        have u1 : 0 ≤ 64 * (p : Int) := by omega
        have u2 : 0 ≤ 64 * (p : Int) + 64 := by omega
        have u3 : 64 * (p : Int) ≤ 64 * (p : Int) + 64 := by omega
        have u4 : (64 * (p : Int)).toNat = 64 * p := by omega
        have u5 : (64 * (p : Int) + 64).toNat = 64 * p + 64 := by omega
        go_region_law ((first | (go_simp; go_at_call 56; refine (HLI.out wr.drew).mono ?_; rintro e w5 ⟨rfl, hb5⟩; obtain ⟨o5, B5, z5, s0, s1, s2, a5⟩ := HF5.out w5 hb5) | (refine step_append_lies _ (by rfl) _ _ _ (by rfl) (W.heap.size + 1) 46 i0 (.agg #[.int .i64 0, .string ⟨#[]⟩, .string ⟨#[]⟩]) 3 40 Try.underlying24 hi hz0 hz1 hz2 rfl (by decide) u R.length (cellsOfLines R) (by rfl) (o5.alloc _) ⟨w5.heap.size, 0, none⟩ 1 1 [.int .i64 (p : Int), .string nd, .string ⟨#[]⟩] (by rfl) rfl (World.news_of_block (heap_alloc_new w5 _)) H1C.out (by decide) H63.out H40.out (Nat.le_trans z5 (by simp)) _ rfl ?_; intro g cp w6 hown6 hgrow6 hat6 hlt6; obtain ⟨HO6, HB6, d0, d1, e1', hgW⟩ := app_step (L := R) (l := ⟨(p : Int), nd, ⟨#[]⟩⟩) o5 B5 z5 s0 s1 s2 hown6 hgrow6)))
        all_goals
          obtain ⟨r0, r1, r2, r3, r4⟩ := box_set HO6 HB6 d0 d1 e1' hgW
          generalize w6.setCell ⟨W.heap.size, 1, none⟩ (.slice (some ⟨g, 0, none⟩) (R.length + 1) cp) = Y at r0 r1 r2 r3 r4
          rw [HFN.out] at r3
          have t0 := HS.out.res0 Y r4; have t1 := HS.out.res1 Y r4; have y0 := HS.out.fro0 Y r4; have y1 := HS.out.fro1 Y r4
          have HE : Hid (Ended w Y) := HS.out.ended r4
          have q0 := HE.out.at0; have q1 := HE.out.at1
          have HRK : Hid (_) := row_kept3 (w := w) (by have := HWS.out; omega) r3
          clear hown6 hgrow6 hat6 hlt6 hb5 o5 B5 z5 s0 s1 s2 a5 HO6 HB6 d0 d1 e1' b0 b1 g1 n0X n0 n1 u1 u2 u3 u4 u5 tm hw64 hw65 h64i r3 r4
          go_wp2
          refine bodyPost_ret (v := .agg #[.string safe, .slice (some ⟨g, 0, none⟩) (R.length + 1) cp]) (by simp [results, Try.results43, go_sem, q0, q1]) rfl ?_
          exact ⟨_, rfl, HRK.out _ _, HE.out.below _ _⟩
end Go.Proofs.Ytgpmpijaggnocaa.dev
