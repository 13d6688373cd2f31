/-
  Where the objects that are kept come to lie, as references, by the program.
-/
import Derived.Test.YtngpmohmnpbcnaaMiMath
import Derived.Test.YtngpmohmnpbcnaaClRefs
import Derived.Test.YtngpmohmnpbcnaaYNam
import Derived.Test.YtngpmohmnpbcnaaYImpl1
namespace Go.Proofs.Ytngpmohmnpbcnaa.mi
open Go.RowKit
open kinds ints ref obj nu cl

theorem newK_take (xs : List ByteArray) (ws P : List Int) (k : Nat) : newK xs ws P (k + 1) = newK xs ws P k ++ [2 * (total xs ws (P.take k) : Int) + 1] := rfl
theorem yref_in (n : Int) (w : World) (h0 : 0 ≤ n) (h1 : n ≤ 399) :
    Calls Try.prog 78 #[.int .i64 n] w fun e w' => e = .returned (.int .i64 (2 * n + 1)) ∧ w' = w := by
  go_enter Try.func78, Try.ntmps78
  go_wp2_with fail
  refine (youngOf_in n w h0 h1).mono ?_
  rintro e w1 ⟨rfl, rfl⟩
  go_wp2_with fail
  refine (youngNumber n w h0 h1).mono ?_
  rintro e w1 ⟨rfl, rfl⟩
  go_wp2
  go_ret
  exact ⟨rfl, rfl⟩
set_option maxHeartbeats 1000000 in
set_option maxRecDepth 20000 in
theorem newRefs_any (w : World) (T S m : Value) (B : Nat) (xs : List ByteArray) (ws : List Int) (L : List Nat) (pa : Option Addr) (pc : Nat) (P : List Int) (hk : Kept xs ws L P) (hlk : Looks w B m xs ws L) (hp : Nums w pa P) :
    Calls Try.prog 45 #[.agg #[T, S, m], .slice pa P.length pc] w fun e w' => AOut (fun s => s) (newK xs ws P P.length) w e w' := by
  obtain ⟨W, hW⟩ : ∃ W, W = w.alloc (.cells #[T, S, m] 60) := ⟨_, rfl⟩
  have HW : Hid (W = w.alloc (.cells #[T, S, m] 60)) := hW
  have hb0 : Below w.heap.size w W := by rw [hW]; exact (Below.refl _ _).alloc (Nat.le_refl _) _
  have hT : Tri w.heap.size T S m W := by rw [hW]; exact Tri.start w _ _ _ _
  have HT : Hid (∀ w', Below W.heap.size W w' → Tri w.heap.size T S m w') := fun w' h => hT.below h
  have HB0 : Hid (Below w.heap.size w W) := hb0
  have HK : Hid (Kept xs ws L P) := hk
  have HLK : Hid (∀ w', Below W.heap.size W w' → Looks w' B m xs ws L) := fun w' h => (hlk.below hb0).below h
  have HPN : Hid (∀ w', Below W.heap.size W w' → Nums w' pa P) := fun w' h => (hp.below hb0).below h
  have HPL : Hid (P.length ≤ 400) := hk.len
  clear hW hb0 hT hk hlk hp
  go_enter Try.func45, Try.ntmps45
  go_wp2_with (rw [← HW.out])
  go_loopw [5, 6, 11] (fun v t i wr => ∃ k : Nat, k ≤ P.length ∧ i = .int .i64 (k : Int) ∧ t = .int .i64 (total xs ws (P.take k) : Int) ∧ wr.ownsRow W.heap.size 2 1 v (newK xs ws P k).length ((newK xs ws P k).map (Value.int .i64)) ∧ Below W.heap.size W wr) (fun _ _ i _ => P.length - (intOf i).toNat)
  case atStart => exact ⟨0, Nat.zero_le _, rfl, rfl, ⟨rfl, .inl ⟨rfl, rfl⟩⟩, Below.refl _ _⟩
  case round =>
    obtain ⟨k, hk, rfl, rfl, hown, hb⟩ := hrel
    have HOW : Hid (wr.ownsRow W.heap.size 2 1 u5 (newK xs ws P k).length ((newK xs ws P k).map (Value.int .i64))) := hown
    have HB : Hid (Below W.heap.size W wr) := hb
    clear hown hb
    by_cases hlt : k < P.length
    · have hki : (k : Int) < (P.length : Int) := by omega
      have hk0 : (0 : Int) ≤ (k : Int) := by omega
      have hk4 : k ≤ 400 := by have := HPL.out; omega
      obtain ⟨b5, o5, rfl, e5⟩ := (HPN.out wr HB.out) k hlt
      rw [getD_of P k hlt] at e5
      have hgp := HK.out.good _ (List.getElem_mem hlt)
      rw [getD_of P k hlt] at hgp
      obtain ⟨hl1, hl2⟩ := HK.out.lt k hlt
      have hnx := total_next (xs := xs) (ws := ws) k hlt
      generalize P.getD k 0 = p at e5 hgp hl1 hl2 hnx
      obtain ⟨aa, rfl⟩ := Int.eq_ofNat_of_zero_le hgp.1
      rw [Int.toNat_natCast] at hl1 hl2 hnx
      have hal := hgp.2.2
      rw [Int.toNat_natCast] at hal
      have ha9 : aa ≤ 399 := by have := hgp.2.1; omega
      have hst := (stepN_le hl2).2.2.2
      rw [← valsA_len hl2] at hst
      have HTK : Hid (newK xs ws P (k + 1) = newK xs ws P k ++ [2 * (total xs ws (P.take k) : Int) + 1]) := rfl
      have HTN : Hid (total xs ws (P.take (k + 1)) = total xs ws (P.take k) + (1 + (valsA xs ws aa).length)) := by show total xs ws (P.take (k + 1)) = _; rw [hnx, hst]
      have HNL : Hid ((newK xs ws P k).length ≤ 1048576) := by show (newK xs ws P k).length ≤ _; rw [newK_len]; omega
      rw [hst] at hl1
      have HLO : Hid (∀ w', Below W.heap.size W w' → ∃ g c, (Instr.lookup 58 m (.int .i64 (aa : Int)) false).run Try.prog w' = .ok (.agg #[.int .i64 (ws.getD aa 0 % 4), .int .i64 (ws.getD aa 0 / 4), .slice (some ⟨g, 0, none⟩) (valsA xs ws aa).length c]) w') := fun w' h => by
        obtain ⟨g, c, hlook, _, _⟩ := (HLK.out w' h).get aa hal (by omega)
        exact ⟨g, c, (hlook w' (Below.refl _ _)).1⟩
      generalize newK xs ws P k = M at HOW HTK HNL
      generalize total xs ws (P.take k) = tt at HTK HTN hl1
      generalize (valsA xs ws aa).length = vl at HTN HLO hl1
      generalize ws.getD aa 0 % 4 = ag at HLO
      generalize ws.getD aa 0 / 4 = ty at HLO
      have HKN : Hid (k < P.length) := hlt
      have HTB : Hid (tt + (1 + vl) ≤ 400) := hl1
      clear hgp hl2 hnx hal ha9 hst
      go_wp2_with fail
      refine (yref_in (tt : Int) wr (by omega) (by omega)).mono ?_
      rintro e w3 ⟨rfl, rfl⟩
      go_wp2_with (refine wpList_push _ (by rfl) _ _ (by rfl) W.heap.size u5 M (2 * (tt : Int) + 1) HOW.out (by rfl) (by rfl) HNL.out HB.out.size ?_; intro g2 c2 w6 hown6 hb6 hB6; have HO6 : Hid (_) := hown6; have HB6 : Hid (Below W.heap.size W w6) := HB.out.trans hb6; obtain ⟨t0, t1, t2, _⟩ := HT.out w6 HB6.out; obtain ⟨gl, cl, hlo⟩ := HLO.out w6 HB6.out; clear hown6 hb6 hB6)
      refine (size_any w6 ag (ty) (some ⟨gl, 0, none⟩) vl cl (by have := HTB.out; omega)).mono ?_
      rintro e w7 ⟨rfl, hb7⟩
      have HO7 : Hid (w7.ownsRow W.heap.size 2 1 (.slice (some ⟨g2, 0, none⟩) (M.length + 1) c2) (M ++ [2 * (tt : Int) + 1]).length ((M ++ [2 * (tt : Int) + 1]).map (Value.int .i64))) := row_kept HO6.out (grown_below none hb7) (fun _ _ _ q => by cases q)
      have HB7 : Hid (Below W.heap.size W w7) := HB6.out.trans (hb7.mono HB6.out.size)
      clear hb7 t0 t1 t2 hlo hl1
      have htt : tt + (1 + vl) ≤ 400 := HTB.out
      go_wp2
      go_roundw
      case rel => exact ⟨k + 1, by have := HKN.out; omega, by go_num, by rw [HTN.out]; go_num, by rw [HTK.out]; exact HO7.out, HB7.out⟩
      case measure => have := HKN.out; simp [intOf]; omega
    · obtain rfl : k = P.length := by omega
      obtain ⟨a6, g6, c6, rfl, hg6, hi6⟩ := ints_of_row HOW.out
      have HI6 : Hid (Ints wr a6 g6 (newK xs ws P P.length)) := hi6
      have HG6 : Hid (w.heap.size ≤ g6) := by have := HB0.out.size; show w.heap.size ≤ g6; omega
      have HBE : Hid (Below w.heap.size w wr) := HB0.out.trans (HB.out.mono HB0.out.size)
      clear HOW hi6 hg6
      go_wp2
      go_ret
      exact ⟨a6, g6, c6, rfl, HG6.out, HI6.out, HBE.out⟩
end Go.Proofs.Ytngpmohmnpbcnaa.mi
