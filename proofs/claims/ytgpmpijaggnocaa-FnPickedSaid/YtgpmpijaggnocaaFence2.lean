/-
  What the specification's l2Fence returns: what was sent is safe, and the lines that are not are kept with nothing sent, in new memory; nothing that was there is written.
-/
import Derived.Test.YtgpmpijaggnocaaFence1
import Derived.Test.YtgpmpijaggnocaaEvict3
import Derived.Test.YtgpmpijaggnocaaDev5
namespace Go.Proofs.Ytgpmpijaggnocaa.dev
open Go.RowKit Go.Maps
open bb later

theorem fenceL_take (ls : List Ln) (k : Nat) (hk : k < ls.length) : fenceL (ls.take (k + 1)) = fenceL (ls.take k) ++ (match fenceLn ls[k] with | none => [] | some x => [x]) := by
  unfold fenceL
  rw [List.take_succ_eq_append_getElem hk, List.filterMap_append]
  congr 1
  rw [List.filterMap_cons]
  cases fenceLn ls[k] <;> rfl
theorem beq_swap (a b : List UInt8) : (a == b) = (b == a) := by
  rw [Bool.eq_iff_iff]
  simp only [beq_iff_eq]
  exact eq_comm

theorem own_up {w : World} {B C : Nat} {e : TypeId} {size : Nat} {v : Value} {n : Nat} {xs : List Value} (h : w.ownsRow B e size v n xs) (hC : C ≤ B) : w.ownsRow C e size v n xs := by
  refine ⟨h.1, ?_⟩
  rcases h.2 with q | ⟨g, cap, cur, q1, q2, q3⟩
  · exact .inl q
  · exact .inr ⟨g, cap, cur, q1, by omega, q3⟩
set_option maxHeartbeats 8000000 in
theorem l2Fence_any (w : World) (safe : ByteArray) (a : Option Addr) (cap : Nat) (ls : List Ln) (hs : safe.size ≤ 1048576) (hn : ls.length ≤ 1048576) (hl : Lines w a ls) (hok : DevOk safe ls) :
    Calls Try.prog 59 #[.agg #[.string safe, .slice a ls.length cap]] w fun e w' => ∃ u, e = .returned (.agg #[.string (fenceS safe ls), u]) ∧ w'.ownsRow (w.heap.size + 3) 46 3 u (fenceL ls).length (cellsOfLines (fenceL ls)) ∧ Below w.heap.size w w' := by
  obtain ⟨i0, hi, hzz⟩ := Option.map_eq_some_iff.1 infoLine
  simp only [Prod.mk.injEq] at hzz
  obtain ⟨hz0, hz1, hz2⟩ := hzz
  obtain ⟨W, hW⟩ : ∃ W, W = start w safe (.slice a ls.length cap) := ⟨_, rfl⟩
  have HS : Hid (Start w W safe (.slice a ls.length cap)) := by rw [hW]; exact start_is _ _ _
  have HW : Hid (W = (w.alloc (.cells #[.string safe, .slice a ls.length cap] 26)).alloc (.cells #[.string ⟨#[]⟩, .slice none 0 0] 26)) := hW
  have HL : Hid (∀ w', Below W.heap.size W w' → Lines w' a ls) := fun w' h => (hl.below HS.out.below).below h
  have HOK : Hid (DevOk safe ls) := hok
  have HWS : Hid (W.heap.size = w.heap.size + 2) := HS.out.size
  have HPL : Hid (∀ k, (fenceB safe.data.toList (ls.take k)).length = safe.size) := fence_len hok
  have hrt := run_told safe W
  have htb := told_below W safe
  have hby := told_bytes W safe
  have hts := told_size W safe
  have hcp : safe.size ≤ capOf W safe := grownCap_ge _ _ _ _
  generalize told W safe = U at hrt htb hby hts
  generalize capOf W safe = cp at hrt hcp
  obtain ⟨V, hV⟩ : ∃ V, V = U.alloc (.cells #[.string ⟨#[]⟩, .slice none 0 0] 26) := ⟨_, rfl⟩
  have hBUV : Below U.heap.size U V := by rw [hV]; exact (Below.refl _ _).alloc (Nat.le_refl _) _
  have HBV : Hid (Below W.heap.size W V) := htb.trans (hBUV.mono htb.size)
  have HBy : Hid (Bytes V W.heap.size safe.data.toList) := hby.below hBUV (by omega)
  obtain ⟨B, hB⟩ : ∃ B, B = W.heap.size + 1 := ⟨_, rfl⟩
  have hUB : U.heap.size = B := by omega
  have v0 : V.cell? ⟨B, 0, none⟩ = some (.string ⟨#[]⟩) := by rw [← hUB, hV, World.cell?_alloc_new]; rfl
  have v1 : V.cell? ⟨B, 1, none⟩ = some (.slice none 0 0) := by rw [← hUB, hV, World.cell?_alloc_new]; rfl
  have v2 : ∀ o, V.frozen? ⟨B, o, none⟩ = false := fun o => by rw [← hUB, hV]; exact World.frozen?_alloc_new _ _ _ _
  have HV : Hid (V = U.alloc (.cells #[.string ⟨#[]⟩, .slice none 0 0] 26)) := hV
  have HBB : Hid (B = W.heap.size + 1) := hB
  have HUB : Hid (U.heap.size = B) := hUB
  have n0 := HS.out.arg0 W (Below.refl _ _); have n1 := HS.out.arg1 W (Below.refl _ _)
  clear hl hW hok hV htb hby hts hBUV hB hUB
  go_enter Try.func59, Try.ntmps59
  go_wp2_with (first | (rw [← HW.out]) | (rw [← HV.out, HUB.out]))
  clear n0 n1 hrt
  go_loopw [5] (fun i wr => ∃ (k : Nat) (u : Value), k ≤ ls.length ∧ i = .int .i64 k ∧ wr.cell? ⟨B, 0, none⟩ = some (.string ⟨#[]⟩) ∧ wr.cell? ⟨B, 1, none⟩ = some u ∧ wr.frozen? ⟨B, 0, none⟩ = false ∧ wr.frozen? ⟨B, 1, none⟩ = false ∧ wr.ownsRow (B + 1) 46 3 u (fenceL (ls.take k)).length (cellsOfLines (fenceL (ls.take k))) ∧ Bytes wr W.heap.size (fenceB safe.data.toList (ls.take k)) ∧ Below W.heap.size W wr) (fun i _ => ls.length - (intOf i).toNat)
  case atStart =>
    have hBB := HBB.out
    refine ⟨0, .slice none 0 0, Nat.zero_le _, rfl, ?_, ?_, ?_, ?_, World.ownsRow_nil _ _ _ _, ?_, ?_⟩
    · rw [World.cell?_setCell_other _ _ _ _ (fun q => by have := congrArg Addr.off q; simp at this)]; exact World.cell?_setCell_same _ _ _ v0
    · exact World.cell?_setCell_same _ _ _ (by rw [World.cell?_setCell_other _ _ _ _ (fun q => by have := congrArg Addr.off q; simp at this)]; exact v1)
    · rw [World.frozen?_setCell, World.frozen?_setCell]; exact v2 0
    · rw [World.frozen?_setCell, World.frozen?_setCell]; exact v2 1
    · exact bytes_set2 (by simpa [fenceB] using HBy.out) (by omega) _ _
    · exact (HBV.out.setCell (p := ⟨B, 0, none⟩) (by show W.heap.size ≤ B; omega) _).setCell (p := ⟨B, 1, none⟩) (by show W.heap.size ≤ B; omega) _
  case round =>
    clear v0 v1 v2
    obtain ⟨k, u, hk, rfl, m0, m1, f0, f1, hown, hbr, hb⟩ := hrel
    have HO : Hid (wr.ownsRow (B + 1) 46 3 u (fenceL (ls.take k)).length (cellsOfLines (fenceL (ls.take k)))) := hown
    have HBr : Hid (Bytes wr W.heap.size (fenceB safe.data.toList (ls.take k))) := hbr
    have HB : Hid (Below W.heap.size W wr) := hb
    clear hown hbr hb
    have n1 := HS.out.arg1 wr HB.out
    have hWr : B < wr.heap.size := World.block_lt_of_cell? wr _ m0
    have hgr : W.heap.size < wr.heap.size := by have := HBB.out; omega
    have hpl := HPL.out k
    by_cases hlt : k < ls.length
    · have hlk := HOK.out.2.2.2 k hlt
      have hst := fenceB_take safe.data.toList ls k hlt
      have hsm := fenceL_take ls k hlt
      have hle : (fenceL (ls.take k)).length ≤ ls.length := Nat.le_trans (fenceL_le _) (by simp; omega)
      obtain ⟨bb, off, rfl, c0, c1, c2⟩ := HL.out wr HB.out k hlt
      have hsl := sent_len hlk
      generalize ls[k] = l at c0 c1 c2 hlk hst hsm hsl
      obtain ⟨pl, dt, sn⟩ := l
      simp only at c0 c1 c2 hst hsm hsl
      obtain ⟨_, hp0, hp1, hd64, _⟩ := hlk
      simp only at hp0 hp1 hd64
      obtain ⟨p, rfl⟩ := Int.eq_ofNat_of_zero_le hp0
      rw [Int.toNat_natCast] at hst
      have h64 : 64 * p + 64 ≤ safe.size := by have := HOK.out.1; omega
      generalize fenceB safe.data.toList (ls.take k) = cur at HBr hpl hst
      have HST : Hid (fenceB safe.data.toList (ls.take (k + 1)) = putAt cur (64 * p) sn.data.toList) := hst
      have hlti : (k : Int) < (ls.length : Int) := by omega
      obtain ⟨X, hX⟩ : ∃ X, X = wr.alloc (.cells #[.int .i64 (p : Int), .string dt, .string sn] 46) := ⟨_, rfl⟩
      have hBX : Below wr.heap.size wr X := by rw [hX]; exact (Below.refl _ _).alloc (Nat.le_refl _) _
      have HBX : Hid (Below W.heap.size W X) := HB.out.trans (hBX.mono HB.out.size)
      have HOX : Hid (X.ownsRow (B + 1) 46 3 u (fenceL (ls.take k)).length (cellsOfLines (fenceL (ls.take k)))) := ln_below HO.out hBX
      have HXB : Hid (Bytes X W.heap.size cur) := HBr.out.below hBX hgr
      have hXs : W.heap.size < X.heap.size := Nat.lt_of_lt_of_le hgr hBX.size
      have x0 : X.cell? ⟨wr.heap.size, 0, none⟩ = some (.int .i64 (p : Int)) := by rw [hX, World.cell?_alloc_new]; rfl
      have x1 : X.cell? ⟨wr.heap.size, 1, none⟩ = some (.string dt) := by rw [hX, World.cell?_alloc_new]; rfl
      have x2 : X.cell? ⟨wr.heap.size, 2, none⟩ = some (.string sn) := by rw [hX, World.cell?_alloc_new]; rfl
      have xf : X.frozen? ⟨wr.heap.size, 2, none⟩ = false := by rw [hX]; exact World.frozen?_alloc_new _ _ _ _
      have b0 : X.cell? ⟨B, 0, none⟩ = some (.string ⟨#[]⟩) := by rw [hBX.cell (p := ⟨B, 0, none⟩) hWr]; exact m0
      have b1 : X.cell? ⟨B, 1, none⟩ = some u := by rw [hBX.cell (p := ⟨B, 1, none⟩) hWr]; exact m1
      have g0 : X.frozen? ⟨B, 0, none⟩ = false := by rw [hBX.frozen (p := ⟨B, 0, none⟩) hWr]; exact f0
      have g1 : X.frozen? ⟨B, 1, none⟩ = false := by rw [hBX.frozen (p := ⟨B, 1, none⟩) hWr]; exact f1
      have HX : Hid (X = wr.alloc (.cells #[.int .i64 (p : Int), .string dt, .string sn] 46)) := hX
      have hw64 : IntKind.i64.wrap (64 * (p : Int)) = 64 * (p : Int) := by rw [IntKind.wrap_i64]; omega
      have hb1 : 64 * (p : Int) ≤ (safe.size : Int) := by omega
      have hcne : ¬ cp = 64 * p := by omega
      have hcy := copy_run X.drew W.heap.size (64 * p) (safe.size - 64 * p) (cp - 64 * p) cur sn 3 HXB.out (by omega) (by omega)
      have hsame : ∀ b o, b ≠ W.heap.size → (X.drew.setCells W.heap.size (64 * p) (cellsOfText sn)).cell? ⟨b, o, none⟩ = X.cell? ⟨b, o, none⟩ ∧ (X.drew.setCells W.heap.size (64 * p) (cellsOfText sn)).frozen? ⟨b, o, none⟩ = X.frozen? ⟨b, o, none⟩ := fun b o hne => by
        have hgc := grown_cells W.heap.size (cellsOfText sn) (64 * p) X.drew
        by_cases hbx : b < X.heap.size
        · have heq : (X.drew.setCells W.heap.size (64 * p) (cellsOfText sn)).heap[b]? = X.heap[b]? := hgc.block b hbx (by intro q; injection q with q; omega)
          exact ⟨by simp only [World.cell?, heq], by simp only [World.frozen?, heq]⟩
        · have heq : (X.drew.setCells W.heap.size (64 * p) (cellsOfText sn)).heap[b]? = X.heap[b]? := by
            rw [Array.getElem?_eq_none (by rw [size_cells]; exact Nat.not_lt.1 hbx), Array.getElem?_eq_none (Nat.not_lt.1 hbx)]
          exact ⟨by simp only [World.cell?, heq], by simp only [World.frozen?, heq]⟩
      have HN6 : Hid (Bytes (X.drew.setCells W.heap.size (64 * p) (cellsOfText sn)) W.heap.size (putAt cur (64 * p) sn.data.toList)) := bytes_splice (w := X.drew) HXB.out _ _ (by omega)
      have HNB : Hid (Below W.heap.size W (X.drew.setCells W.heap.size (64 * p) (cellsOfText sn))) := below_cells HBX.out.drew (Nat.le_refl _) _ _
      have HN7 : Hid ((X.drew.setCells W.heap.size (64 * p) (cellsOfText sn)).ownsRow (B + 1) 46 3 u (fenceL (ls.take k)).length (cellsOfLines (fenceL (ls.take k)))) :=
        World.ownsRow.kept (w := X.drew) HOX.out (grown_cells W.heap.size (cellsOfText sn) (64 * p) X.drew) (by
          rcases hv : u.ownBlock with _ | j
          · exact .inl rfl
          · refine .inr (fun q => ?_)
            have h1 := (HOX.out.lt j hv).1
            have h2 := HBB.out
            injection q with q
            omega)
      have hBW : B ≠ W.heap.size := by have := HBB.out; omega
      have hrW : wr.heap.size ≠ W.heap.size := by omega
      have hrB : wr.heap.size ≠ B := by omega
      generalize X.drew.setCells W.heap.size (64 * p) (cellsOfText sn) = w6 at HN6 HNB HN7 hcy hsame
      have e0 : w6.cell? ⟨B, 0, none⟩ = some (.string ⟨#[]⟩) := by rw [(hsame B 0 hBW).1]; exact b0
      have e1 : w6.cell? ⟨B, 1, none⟩ = some u := by rw [(hsame B 1 hBW).1]; exact b1
      have e2 : w6.frozen? ⟨B, 0, none⟩ = false := by rw [(hsame B 0 hBW).2]; exact g0
      have e3 : w6.frozen? ⟨B, 1, none⟩ = false := by rw [(hsame B 1 hBW).2]; exact g1
      have z0 : w6.cell? ⟨wr.heap.size, 0, none⟩ = some (.int .i64 (p : Int)) := by rw [(hsame _ 0 hrW).1]; exact x0
      have z1 : w6.cell? ⟨wr.heap.size, 1, none⟩ = some (.string dt) := by rw [(hsame _ 1 hrW).1]; exact x1
      have z2 : w6.cell? ⟨wr.heap.size, 2, none⟩ = some (.string sn) := by rw [(hsame _ 2 hrW).1]; exact x2
      have z3 : w6.frozen? ⟨wr.heap.size, 2, none⟩ = false := by rw [(hsame _ 2 hrW).2]; exact xf
      clear hX hBX hst hsl hp0 hp1 hsame b0 b1 g0 g1 xf m0 m1 f0 f1
      cases hcmp : (sn.toList == dt.toList) with
      | true =>
        have HSM : Hid (fenceL (ls.take (k + 1)) = fenceL (ls.take k)) := by
          have h1 := hsm
          unfold fenceLn at h1
          rw [beq_swap] at h1
          simp only [hcmp, if_true, List.append_nil] at h1
          exact h1
        clear hsm
        go_wp2_with (rw [← HX.out])
        go_region
        all_goals
          clear c0 c1 c2 n1 hcy x0 x1 x2
          go_wp2
          go_roundw
          case rel => exact ⟨k + 1, u, by omega, by go_num, e0, e1, e2, e3, by rw [HSM.out]; exact HN7.out, by rw [HST.out]; exact HN6.out, HNB.out⟩
          case measure => simp [intOf]; omega
      | false =>
        have HSM : Hid (fenceL (ls.take (k + 1)) = fenceL (ls.take k) ++ [⟨(p : Int), dt, ⟨#[]⟩⟩]) := by
          have h1 := hsm
          unfold fenceLn at h1
          rw [beq_swap] at h1
          simp only [hcmp] at h1
          exact h1
        generalize fenceL (ls.take k) = R at HSM HN7 hle
        obtain ⟨Y, hY⟩ : ∃ Y, Y = w6.setCell ⟨wr.heap.size, 2, none⟩ (.string ⟨#[]⟩) := ⟨_, rfl⟩
        have hYo : ∀ b o, (b ≠ wr.heap.size ∨ o ≠ 2) → Y.cell? ⟨b, o, none⟩ = w6.cell? ⟨b, o, none⟩ := fun b o h => by
          rw [hY]
          exact World.cell?_setCell_other _ _ _ _ (fun q => by
            have q1 := congrArg Addr.block q
            have q2 := congrArg Addr.off q
            simp only at q1 q2
            omega)
        have hYf : ∀ b o, Y.frozen? ⟨b, o, none⟩ = w6.frozen? ⟨b, o, none⟩ := fun b o => by rw [hY, World.frozen?_setCell]
        have i0' : Y.cell? ⟨B, 0, none⟩ = some (.string ⟨#[]⟩) := by rw [hYo B 0 (.inl (Ne.symm hrB))]; exact e0
        have i1 : Y.cell? ⟨B, 1, none⟩ = some u := by rw [hYo B 1 (.inl (Ne.symm hrB))]; exact e1
        have i2 : Y.frozen? ⟨B, 0, none⟩ = false := by rw [hYf]; exact e2
        have i3 : Y.frozen? ⟨B, 1, none⟩ = false := by rw [hYf]; exact e3
        have j0 : Y.cell? ⟨wr.heap.size, 0, none⟩ = some (.int .i64 (p : Int)) := by rw [hYo _ 0 (.inr (by omega))]; exact z0
        have j1 : Y.cell? ⟨wr.heap.size, 1, none⟩ = some (.string dt) := by rw [hYo _ 1 (.inr (by omega))]; exact z1
        have j2 : Y.cell? ⟨wr.heap.size, 2, none⟩ = some (.string ⟨#[]⟩) := by rw [hY]; exact World.cell?_setCell_same _ _ _ z2
        have hYg : w6.grownBy Y (some wr.heap.size) := by rw [hY]; exact grown_set w6 wr.heap.size 2 _
        have HOY : Hid (Y.ownsRow (B + 1) 46 3 u R.length (cellsOfLines R)) := HN7.out.kept hYg (by
          rcases hv : u.ownBlock with _ | j
          · exact .inl rfl
          · refine .inr (fun q => ?_)
            have h1 := HO.out.lt j hv
            injection q with q
            omega)
        have HBY : Hid (Below W.heap.size W Y) := HNB.out.trans (below_of_grown hYg HNB.out.size (by omega))
        have HYB : Hid (Bytes Y W.heap.size (putAt cur (64 * p) sn.data.toList)) := bytes_grown HN6.out hYg (Ne.symm hrW)
        have HY : Hid (Y = w6.setCell ⟨wr.heap.size, 2, none⟩ (.string ⟨#[]⟩)) := hY
        have hWY : B < Y.heap.size := World.block_lt_of_cell? Y _ i0'
        have hYW : W.heap.size < Y.heap.size := by have := HBB.out; omega
        clear hsm hY hYo hYf hYg e0 e1 e2 e3
        go_wp2_with (rw [← HX.out])
        go_region
        all_goals
          clear c0 c1 c2 n1 hcy x0 x1 x2
          go_wp2_with (first | (rw [← HY.out]) | (at_builtin; refine wpList_append_lies _ rfl _ _ 24 rfl (B + 1) 46 i0 (.agg #[.int .i64 0, .string ⟨#[]⟩, .string ⟨#[]⟩]) 3 40 Try.underlying24 hi hz0 hz1 hz2 rfl (by decide) _ _ _ rfl (HOY.out.alloc _) ⟨Y.heap.size, 0, none⟩ 1 1 [.int .i64 (p : Int), .string dt, .string ⟨#[]⟩] rfl rfl ?c1 ?c2 (by decide) ?c3 ?c4 ?c5 _ rfl ?_))
          case c1 =>
            intro j u hj
            match j, hj with
            | 0, hj => simp at hj; subst hj; simp [Addr.add]
            | 1, hj => simp at hj; subst hj; simp [Addr.add]
            | 2, hj => simp at hj; subst hj; simp [Addr.add]
          case c2 => intro u hu; simp at hu; rcases hu with rfl | rfl | rfl <;> rfl
          case c3 => unfold maxLen; omega
          case c4 => omega
          case c5 => first | omega | (simp; omega)
          intro g cp2 w7 hown7 hgrow7 hat7 hlt7
          have hne7 : ∀ j, u.ownBlock = some j → B + 1 ≤ j := fun j hj => (HOY.out.lt j hj).1
          have hal := (Below.refl Y.heap.size Y).alloc (Nat.le_refl _) (.cells #[.int .i64 (p : Int), .string dt, .string ⟨#[]⟩] 46)
          have hsame7 : ∀ b, b ≤ B → w7.heap[b]? = Y.heap[b]? := fun b hbB => by
            rw [hgrow7.block b (by simp; omega) (fun q => by have := hne7 _ q.symm; omega)]
            exact hal.block b (by omega)
          have HB7 : Hid (Below W.heap.size W w7) := by
            have h0 : Y.ownsRow W.heap.size 46 3 u R.length (cellsOfLines R) := own_low (by have h1 := HOY.out; rw [HBB.out] at h1; exact own_low h1)
            exact ln_own (h0.alloc _) (HBY.out.alloc HBY.out.size _) (by simp; omega) hgrow7
          have HYB7 : Hid (Bytes w7 W.heap.size (putAt cur (64 * p) sn.data.toList)) := fun j hj => by
            have heq := hsame7 W.heap.size (by have := HBB.out; omega)
            obtain ⟨h1, h2⟩ := HYB.out j hj
            exact ⟨by simp only [World.cell?, heq] at h1 ⊢; exact h1, by simp only [World.frozen?, heq] at h2 ⊢; exact h2⟩
          have hraw : w7.ownsRow (B + 1) 46 3 (.slice (some ⟨g, 0, none⟩) (R.length + 1) cp2) (fenceL (ls.take (k + 1))).length (cellsOfLines (fenceL (ls.take (k + 1)))) := by
            rw [HSM.out, cellsOfLines_snoc]
            simpa using hown7
          have HO7 : Hid (w7.ownsRow (B + 1) 46 3 (.slice (some ⟨g, 0, none⟩) (R.length + 1) cp2) (fenceL (ls.take (k + 1))).length (cellsOfLines (fenceL (ls.take (k + 1))))) := hraw
          have heqB := hsame7 B (Nat.le_refl _)
          have d0 : w7.cell? ⟨B, 0, none⟩ = some (.string ⟨#[]⟩) := by simp only [World.cell?, heqB] at i0' ⊢; exact i0'
          have d1 : w7.cell? ⟨B, 1, none⟩ = some u := by simp only [World.cell?, heqB] at i1 ⊢; exact i1
          have d2 : w7.frozen? ⟨B, 0, none⟩ = false := by simp only [World.frozen?, heqB] at i2 ⊢; exact i2
          have d3 : w7.frozen? ⟨B, 1, none⟩ = false := by simp only [World.frozen?, heqB] at i3 ⊢; exact i3
          have hgB : B + 1 ≤ g := by
            rcases hraw.2 with ⟨q, _⟩ | ⟨g2, _, _, q, hb, _⟩
            · cases q
            · injection q with q1; injection q1 with q2; injection q2 with q3; omega
          clear hraw hown7 hgrow7 hat7 hlt7 hsame7 hne7 heqB hal i0' i1 i2 i3 j0 j1 j2 z0 z1 z2 z3
          go_wp2
          go_roundw
          case rel =>
            refine ⟨k + 1, .slice (some ⟨g, 0, none⟩) (R.length + 1) cp2, by omega, by go_num, ?_, ?_, ?_, ?_, ?_, ?_, ?_⟩
            · rw [World.cell?_setCell_other _ _ _ _ (fun q => by have := congrArg Addr.off q; simp at this)]; exact d0
            · exact World.cell?_setCell_same _ _ _ d1
            · rw [World.frozen?_setCell]; exact d2
            · rw [World.frozen?_setCell]; exact d3
            · exact HO7.out.kept (grown_set _ B 1 _) (.inr (fun q => by
                have q2 : some g = some B := q
                injection q2 with q3
                omega))
            · rw [HST.out]; exact bytes_grown HYB7.out (grown_set _ B 1 _) (Ne.symm hBW)
            · exact HB7.out.setCell (p := ⟨B, 1, none⟩) (by show W.heap.size ≤ B; have := HBB.out; omega) _
          case measure => simp [intOf]; omega
    · have he : ls.take k = ls := List.take_of_length_le (by omega)
      rw [he] at HO HBr hpl
      obtain ⟨aa, cp2, rfl⟩ := row_shape HO.out
      have hcv := HBr.out.text cp
      rw [hpl] at hcv
      have HF : Hid (fenceS safe ls = ⟨(fenceB safe.data.toList ls).toArray⟩) := rfl
      generalize ByteArray.mk (fenceB safe.data.toList ls).toArray = st at hcv HF
      obtain ⟨Z, hZ⟩ : ∃ Z, Z = wr.setCell ⟨B, 0, none⟩ (.string st) := ⟨_, rfl⟩
      have hZB : Below W.heap.size W Z := by rw [hZ]; exact HB.out.setCell (p := ⟨B, 0, none⟩) (by show W.heap.size ≤ B; have := HBB.out; omega) _
      have HBZ : Hid (Below W.heap.size W Z) := hZB
      have s0 : Z.cell? ⟨B, 0, none⟩ = some (.string st) := by rw [hZ]; exact World.cell?_setCell_same _ _ _ m0
      have s1 : Z.cell? ⟨B, 1, none⟩ = some (.slice aa (fenceL ls).length cp2) := by rw [hZ, World.cell?_setCell_other _ _ _ _ (fun q => by have := congrArg Addr.off q; simp at this)]; exact m1
      have hOZ : Z.ownsRow (B + 1) 46 3 (.slice aa (fenceL ls).length cp2) (fenceL ls).length (cellsOfLines (fenceL ls)) := by
        rw [hZ]
        exact HO.out.kept (grown_set _ B 0 _) (by
          rcases hv : (Value.slice aa (fenceL ls).length cp2).ownBlock with _ | j
          · exact .inl rfl
          · refine .inr (fun q => ?_)
            have h1 := (HO.out.lt j hv).1
            injection q with q
            omega)
      have HZ : Hid (Z = wr.setCell ⟨B, 0, none⟩ (.string st)) := hZ
      have t0 := HS.out.res0 Z HBZ.out; have t1 := HS.out.res1 Z HBZ.out; have y0 := HS.out.fro0 Z HBZ.out; have y1 := HS.out.fro1 Z HBZ.out
      have HE : Hid (Ended w Z) := HS.out.ended HBZ.out
      have q0 := HE.out.at0; have q1 := HE.out.at1
      have HRK : Hid (_) := row_kept3 (w := w) rfl (own_up hOZ (by have := HBB.out; have := HWS.out; omega))
      clear hZ hZB hOZ
      go_wp2_with (rw [← HZ.out])
      refine bodyPost_ret (v := .agg #[.string st, .slice aa (fenceL ls).length cp2]) (by simp [results, Try.results59, go_sem, q0, q1]) rfl ?_
      exact ⟨_, by rw [HF.out], HRK.out _ _, HE.out.below _ _⟩
end Go.Proofs.Ytgpmpijaggnocaa.dev
