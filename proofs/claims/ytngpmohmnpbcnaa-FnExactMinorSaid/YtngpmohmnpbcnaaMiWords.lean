/-
  The words of a young object of some age, by the program.
-/
import Derived.Test.YtngpmohmnpbcnaaYGrow
import Derived.Deep.RegionHeld3
namespace Go.Proofs.Ytngpmohmnpbcnaa.nu
open Go.RowKit
open kinds ints ref obj

set_option maxHeartbeats 1000000 in
set_option maxRecDepth 20000 in
theorem words_age (w : World) (ag t : Int) (a : Option Addr) (n c : Nat) (vs : List Int) (hx : vs.length = n) (hn : n ≤ 524288) (hg0 : 0 ≤ ag) (hg3 : ag ≤ 3) (ht0 : 0 ≤ t) (ht : t ≤ 1048576) (hv : Nums w a vs) :
    Calls Try.prog 47 #[.agg #[.int .i64 ag, .int .i64 t, .slice a n c]] w fun e w' => AOut (fun s => s) ((4 * t + ag) :: vs) w e w' := by
  obtain ⟨W, hW⟩ : ∃ W, W = w.alloc (.cells #[.int .i64 ag, .int .i64 t, .slice a n c] 71) := ⟨_, rfl⟩
  have HW : Hid (W = w.alloc (.cells #[.int .i64 ag, .int .i64 t, .slice a n c] 71)) := hW
  have hb0 : Below w.heap.size w W := by rw [hW]; exact (Below.refl _ _).alloc (Nat.le_refl _) _
  obtain ⟨c0, c1, c2, _⟩ : Tri w.heap.size (.int .i64 ag) (.int .i64 t) (.slice a n c) W := by rw [hW]; exact Tri.start w _ _ _ _
  obtain ⟨X, hX⟩ : ∃ X, X = W.alloc (.cells #[.int .i64 (4 * t + ag)] 2) := ⟨_, rfl⟩
  have HX : Hid (X = W.alloc (.cells #[.int .i64 (4 * t + ag)] 2)) := hX
  have hbX : Below W.heap.size W X := by rw [hX]; exact (Below.refl _ _).alloc (Nat.le_refl _) _
  have hXs : X.heap.size = W.heap.size + 1 := by rw [hX]; simp
  have x2 : X.cell? ⟨w.heap.size, 2, none⟩ = some (.slice a n c) := by rw [hbX.cell (p := ⟨w.heap.size, 2, none⟩) (World.block_lt_of_cell? _ _ c2)]; exact c2
  have hiX : Ints X (some ⟨W.heap.size, 0, none⟩) W.heap.size [4 * t + ag] := fun i hi => by
    have : i = 0 := by simpa using hi
    subst this
    rw [hX]
    exact ⟨rfl, by rw [World.cell?_alloc_new]; rfl, World.frozen?_alloc_new _ _ _ _⟩
  obtain ⟨Z, hZ⟩ : ∃ Z, Z = X.alloc (.cells #[.slice (some ⟨W.heap.size, 0, none⟩) 1 1, .slice a n c] 23) := ⟨_, rfl⟩
  have HZ : Hid (Z = X.alloc (.cells #[.slice (some ⟨W.heap.size, 0, none⟩) 1 1, .slice a n c] 23)) := hZ
  have hbZ : Below X.heap.size X Z := by rw [hZ]; exact (Below.refl _ _).alloc (Nat.le_refl _) _
  have z0 : Z.cell? ⟨X.heap.size, 0, none⟩ = some (.slice (some ⟨W.heap.size, 0, none⟩) 1 1) := by rw [hZ, World.cell?_alloc_new]; rfl
  have z1 : Z.cell? ⟨X.heap.size, 1, none⟩ = some (.slice a n c) := by rw [hZ, World.cell?_alloc_new]; rfl
  have HBZ : Hid (Below w.heap.size w Z) := (hb0.trans (hbX.mono hb0.size)).trans (hbZ.mono (Nat.le_trans hb0.size hbX.size))
  have HCC : Hid (Calls _ _ _ Z _) := concat_two Z X.heap.size (some ⟨W.heap.size, 0, none⟩) a 1 n 1 c [4 * t + ag] vs rfl hx (by omega) (by omega) hn z0 z1 ((hiX.below hbZ).nums) (((hv.below hb0).below hbX).below hbZ)
  obtain ⟨xb, hxb⟩ : ∃ xb, xb = X.heap.size := ⟨_, rfl⟩
  rw [← hxb] at HCC
  have HXB : Hid (xb = X.heap.size) := hxb
  obtain ⟨wb, hwb⟩ : ∃ wb, wb = W.heap.size := ⟨_, rfl⟩
  have HWB : Hid (wb = W.heap.size) := hwb
  clear hW hb0 hX hbX hXs hiX hZ hbZ z0 z1 hxb hv hwb
  go_enter Try.func47, Try.ntmps47
  go_wp2_with (first | (rw [← HZ.out, ← HXB.out]) | (rw [← HZ.out]) | (rw [← HX.out]) | (rw [← HW.out]))
  try rw [← HXB.out]
  refine HCC.out.mono ?_
  rintro e w6 ⟨a6, g6, c6, rfl, hg6, hi6, hb6⟩
  have HI6 : Hid (Ints w6 a6 g6 ([4 * t + ag] ++ vs)) := hi6
  have HB6 : Hid (Below w.heap.size w w6) := HBZ.out.trans (hb6.mono HBZ.out.size)
  have HG6 : Hid (w.heap.size ≤ g6) := by show w.heap.size ≤ g6; have := HBZ.out.size; omega
  clear hi6 hb6 hg6
  go_wp2
  go_ret
  exact ⟨a6, g6, c6, by show _ = Ending.returned (.slice a6 ((4 * t + ag) :: vs).length c6); rw [List.length_cons, hx]; rfl, HG6.out, HI6.out, HB6.out⟩
end Go.Proofs.Ytngpmohmnpbcnaa.nu
