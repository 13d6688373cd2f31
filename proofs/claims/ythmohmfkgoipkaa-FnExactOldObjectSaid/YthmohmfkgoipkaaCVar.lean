/-
  Configs in variables: marked, and their marks found again.
-/
import Derived.Test.YthmohmfkgoipkaaConf
import Derived.Test.YthmohmfkgoipkaaTxt
namespace Go.Proofs.Ythmohmfkgoipkaa.cv
open Go.RowKit
open kinds ints txt

theorem markConfig_any (w : World) (n1 n2 n3 : Int) (a : Option Addr) (g n cap : Nat) (xs : List ByteArray) (k : Nat) (hxs : xs.length = n) (ha : Txts w a g xs) (hn : n ≤ 1048576) (hk0 : 0 < k) (hk1 : k ≤ 4194304) :
    Calls Try.prog 11 #[.agg #[.int .i64 n1, .int .i64 n2, .int .i64 n3, .slice a n cap], .int .i64 (k : Int)] w fun e w' => e = .returned (.int .i64 ((k + n : Nat) : Int)) ∧ w.grownBy w' (some g) ∧ Txts w' a g (markTs k n) := by
  obtain ⟨W, hW⟩ : ∃ W, W = w.alloc (.cells #[.int .i64 n1, .int .i64 n2, .int .i64 n3, .slice a n cap] 29) := ⟨_, rfl⟩
  have HW : Hid (W = w.alloc (.cells #[.int .i64 n1, .int .i64 n2, .int .i64 n3, .slice a n cap] 29)) := hW
  have hb0 : Below w.heap.size w W := by rw [hW]; exact (Below.refl _ _).alloc (Nat.le_refl _) _
  have HM : Hid (∀ w', w' = W → _) := fun w' q => markStringS_any w' a g n cap xs k hxs (q ▸ ha.below hb0) hn hk0 hk1
  have HG : Hid (w.grownBy W (some g)) := grown_below _ hb0
  obtain ⟨km, hkm⟩ : ∃ km : Int, km = ((k + n : Nat) : Int) := ⟨_, rfl⟩
  rw [← hkm] at HM ⊢
  clear hW ha hb0 hkm
  go_enter Try.func11, Try.ntmps11
  go_wp2_with fail
  rw [← HW.out]
  refine (HM.out W rfl).mono ?_
  rintro e w' ⟨rfl, hg, htx⟩
  have HG1 : Hid (w.grownBy w' (some g)) := grown_trans HG.out hg
  have HT : Hid (Txts w' a g (markTs k n)) := htx
  clear hg htx
  go_wp2
  go_ret
  exact ⟨rfl, HG1.out, HT.out⟩
/-- A config in a variable of its own. -/
structure CVar (b : Nat) (n1 n2 n3 : Int) (a : Option Addr) (g n cap : Nat) (xs : List ByteArray) (w : World) : Prop where
  c0 : w.cell? ⟨b, 0, none⟩ = some (.int .i64 n1)
  c1 : w.cell? ⟨b, 1, none⟩ = some (.int .i64 n2)
  c2 : w.cell? ⟨b, 2, none⟩ = some (.int .i64 n3)
  c3 : w.cell? ⟨b, 3, none⟩ = some (.slice a n cap)
  len : xs.length = n
  tx : Txts w a g xs
theorem CVar.lt {b : Nat} {n1 n2 n3 : Int} {a : Option Addr} {g n cap : Nat} {xs : List ByteArray} {w : World} (h : CVar b n1 n2 n3 a g n cap xs w) : b < w.heap.size := World.block_lt_of_cell? w _ h.c0
theorem CVar.below {b : Nat} {n1 n2 n3 : Int} {a : Option Addr} {g n cap : Nat} {xs : List ByteArray} {w w' : World} (h : CVar b n1 n2 n3 a g n cap xs w) (hb : Below w.heap.size w w') : CVar b n1 n2 n3 a g n cap xs w' :=
  ⟨by rw [hb.cell (p := ⟨b, 0, none⟩) h.lt]; exact h.c0, by rw [hb.cell (p := ⟨b, 1, none⟩) h.lt]; exact h.c1, by rw [hb.cell (p := ⟨b, 2, none⟩) h.lt]; exact h.c2, by rw [hb.cell (p := ⟨b, 3, none⟩) h.lt]; exact h.c3, h.len, h.tx.below hb⟩
theorem CVar.grown {b : Nat} {n1 n2 n3 : Int} {a : Option Addr} {g n cap r : Nat} {xs : List ByteArray} {w w' : World} (h : CVar b n1 n2 n3 a g n cap xs w) (hg : w.grownBy w' (some r)) (hr : b ≠ r) (hne : 0 < xs.length → g ≠ r) : CVar b n1 n2 n3 a g n cap xs w' := by
  have hbk := hg.block b h.lt (fun q => hr (Option.some.inj q))
  exact ⟨by rw [World.cell?_of_block (a := ⟨b, 0, none⟩) hbk]; exact h.c0, by rw [World.cell?_of_block (a := ⟨b, 1, none⟩) hbk]; exact h.c1, by rw [World.cell?_of_block (a := ⟨b, 2, none⟩) hbk]; exact h.c2, by rw [World.cell?_of_block (a := ⟨b, 3, none⟩) hbk]; exact h.c3, h.len, h.tx.grown hg hne⟩
theorem CVar.start (w : World) (n1 n2 n3 : Int) (a : Option Addr) (g n cap : Nat) (xs : List ByteArray) (T : TypeId) (hl : xs.length = n) (h : Txts w a g xs) : CVar w.heap.size n1 n2 n3 a g n cap xs (w.alloc (.cells #[.int .i64 n1, .int .i64 n2, .int .i64 n3, .slice a n cap] T)) :=
  ⟨by rw [World.cell?_alloc_new]; rfl, by rw [World.cell?_alloc_new]; rfl, by rw [World.cell?_alloc_new]; rfl, by rw [World.cell?_alloc_new]; rfl, hl, h.below ((Below.refl _ _).alloc (Nat.le_refl _) _)⟩
theorem CVar.marked {b : Nat} {n1 n2 n3 : Int} {a : Option Addr} {g r n cap : Nat} {xs ys : List ByteArray} {w w' : World} (h : CVar b n1 n2 n3 a g n cap xs w) (hg : w.grownBy w' (some r)) (hr : b ≠ r) (hl : ys.length = n) (ht : Txts w' a r ys) : CVar b n1 n2 n3 a r n cap ys w' := by
  have hbk := hg.block b h.lt (fun q => hr (Option.some.inj q))
  exact ⟨by rw [World.cell?_of_block (a := ⟨b, 0, none⟩) hbk]; exact h.c0, by rw [World.cell?_of_block (a := ⟨b, 1, none⟩) hbk]; exact h.c1, by rw [World.cell?_of_block (a := ⟨b, 2, none⟩) hbk]; exact h.c2, by rw [World.cell?_of_block (a := ⟨b, 3, none⟩) hbk]; exact h.c3, hl, ht⟩
/-- The block that is written when it is marked. -/
theorem CVar.block {b : Nat} {n1 n2 n3 : Int} {a : Option Addr} {g n cap : Nat} {xs : List ByteArray} {w : World} (h : CVar b n1 n2 n3 a g n cap xs w) (B : Nat) (hB : B ≤ g) (hw : B ≤ w.heap.size) : ∃ r, Txts w a r xs ∧ B ≤ r ∧ ∀ k, k < w.heap.size → (0 < xs.length → k ≠ g) → k ≠ r := by
  by_cases h0 : 0 < xs.length
  · exact ⟨g, h.tx, hB, fun k _ q => q h0⟩
  · exact ⟨w.heap.size, fun i hi => by omega, hw, fun k q _ => by omega⟩
end Go.Proofs.Ythmohmfkgoipkaa.cv
