/-
  Configs in variables: held against each other, marked, and their marks found again; what ReadSuper answers, by both.
-/
import Derived.Test.YtpkdkkjdlhillaaDoorRsImpl
import Derived.Test.YtpkdkkjdlhillaaDoorRsSpec
namespace Go.Proofs.YtpkdkkjdlhillaaDoor.crc
open Go.RowKit
open kinds ints txt

set_option maxHeartbeats 1000000 in
theorem eqConfig_same (w : World) (n1 n2 n3 : Int) (a b : Option Addr) (n ca cb : Nat) (xs : List ByteArray) (hx : xs.length = n) (hn : xs.length ≤ 1048576) (ha : Strs w a xs) (hb : Strs w b xs) :
    Calls Tryd.prog 23 #[.agg #[.int .i64 n1, .int .i64 n2, .int .i64 n3, .slice a n ca], .agg #[.int .i64 n1, .int .i64 n2, .int .i64 n3, .slice b n cb]] w fun e w' => e = .returned (.bool true) ∧ Below w.heap.size w w' := by
  subst hx
  have HA : Hid (∀ w', Below w.heap.size w w' → Strs w' a xs) := fun w' h => ha.below h
  have HBb : Hid (∀ w', Below w.heap.size w w' → Strs w' b xs) := fun w' h => hb.below h
  obtain ⟨W, hW⟩ : ∃ W, W = (w.alloc (.cells #[.int .i64 n1, .int .i64 n2, .int .i64 n3, .slice a xs.length ca] 26)).alloc (.cells #[.int .i64 n1, .int .i64 n2, .int .i64 n3, .slice b xs.length cb] 26) := ⟨_, rfl⟩
  have HW : Hid (W = (w.alloc (.cells #[.int .i64 n1, .int .i64 n2, .int .i64 n3, .slice a xs.length ca] 26)).alloc (.cells #[.int .i64 n1, .int .i64 n2, .int .i64 n3, .slice b xs.length cb] 26)) := hW
  have hb0 : Below w.heap.size w W := by rw [hW]; exact ((Below.refl _ _).alloc (Nat.le_refl _) _).alloc (by simp) _
  have HB0 : Hid (Below w.heap.size w W) := hb0
  have x1 : (n1 != n1) = false := by simp
  have x2 : (n2 != n2) = false := by simp
  have x3 : (n3 != n3) = false := by simp
  clear ha hb hW hb0
  go_enter Tryd.func23, Tryd.ntmps23
  go_wp2_with fail
  rw [← HW.out]
  refine (eqStringS_same W a b ca cb xs hn (HA.out W HB0.out) (HBb.out W HB0.out)).mono ?_
  rintro e w' ⟨rfl, hb⟩
  have HB1 : Hid (Below w.heap.size w w') := by first | exact HB0.out.trans (hb.mono HB0.out.size) | (subst hb; exact HB0.out)
  clear hb
  go_wp2
  go_ret
  exact ⟨rfl, HB1.out⟩
theorem markConfig_any (w : World) (n1 n2 n3 : Int) (a : Option Addr) (g n cap : Nat) (xs : List ByteArray) (k : Nat) (hxs : xs.length = n) (ha : Txts w a g xs) (hn : n ≤ 1048576) (hk0 : 0 < k) (hk1 : k ≤ 4194304) :
    Calls Tryd.prog 24 #[.agg #[.int .i64 n1, .int .i64 n2, .int .i64 n3, .slice a n cap], .int .i64 (k : Int)] w fun e w' => e = .returned (.int .i64 ((k + n : Nat) : Int)) ∧ w.grownBy w' (some g) ∧ Txts w' a g (markTs k n) := by
  obtain ⟨W, hW⟩ : ∃ W, W = w.alloc (.cells #[.int .i64 n1, .int .i64 n2, .int .i64 n3, .slice a n cap] 26) := ⟨_, rfl⟩
  have HW : Hid (W = w.alloc (.cells #[.int .i64 n1, .int .i64 n2, .int .i64 n3, .slice a n cap] 26)) := hW
  have hb0 : Below w.heap.size w W := by rw [hW]; exact (Below.refl _ _).alloc (Nat.le_refl _) _
  have HM : Hid (∀ w', w' = W → _) := fun w' q => markStringS_any w' a g n cap xs k hxs (q ▸ ha.below hb0) hn hk0 hk1
  have HG : Hid (w.grownBy W (some g)) := grown_below _ hb0
  obtain ⟨km, hkm⟩ : ∃ km : Int, km = ((k + n : Nat) : Int) := ⟨_, rfl⟩
  rw [← hkm] at HM ⊢
  clear hW ha hb0 hkm
  go_enter Tryd.func24, Tryd.ntmps24
  go_wp2_with fail
  rw [← HW.out]
  refine (HM.out W rfl).mono ?_
  rintro e w' ⟨rfl, hg, htx⟩
  have HG1 : Hid (w.grownBy w' (some g)) := grown_trans HG.out hg
  have HT : Hid (Txts w' a g (markTs k n)) := htx
  clear hg htx
  go_wp2
  go_ret
  exact ⟨rfl, HG1.out, HT.out⟩
theorem heldConfig_any (w : World) (n1 n2 n3 : Int) (a : Option Addr) (g n cap : Nat) (k : Nat) (ha : Txts w a g (markTs k n)) (hn : n ≤ 1048576) (hk0 : 0 < k) (hk1 : k ≤ 4194304) :
    Calls Tryd.prog 25 #[.agg #[.int .i64 n1, .int .i64 n2, .int .i64 n3, .slice a n cap], .int .i64 (k : Int)] w fun e w' => e = .returned (.int .i64 ((k + n : Nat) : Int)) ∧ Below w.heap.size w w' := by
  obtain ⟨W, hW⟩ : ∃ W, W = w.alloc (.cells #[.int .i64 n1, .int .i64 n2, .int .i64 n3, .slice a n cap] 26) := ⟨_, rfl⟩
  have HW : Hid (W = w.alloc (.cells #[.int .i64 n1, .int .i64 n2, .int .i64 n3, .slice a n cap] 26)) := hW
  have hb0 : Below w.heap.size w W := by rw [hW]; exact (Below.refl _ _).alloc (Nat.le_refl _) _
  have HM : Hid (∀ w', w' = W → _) := fun w' q => heldStringS_any w' a g n cap k (q ▸ ha.below hb0) hn hk0 hk1
  have HB0 : Hid (Below w.heap.size w W) := hb0
  obtain ⟨km, hkm⟩ : ∃ km : Int, km = ((k + n : Nat) : Int) := ⟨_, rfl⟩
  have hk2 : ¬ km < 0 := by omega
  rw [← hkm] at HM ⊢
  clear hW ha hb0 hkm
  go_enter Tryd.func25, Tryd.ntmps25
  go_wp2_with fail
  rw [← HW.out]
  refine (HM.out W rfl).mono ?_
  rintro e w' ⟨rfl, hb⟩
  have HB1 : Hid (Below w.heap.size w w') := HB0.out.trans (hb.mono HB0.out.size)
  clear hb
  go_wp2
  go_ret
  exact ⟨rfl, HB1.out⟩
/-- What ReadSuper answers: numbers, and texts of its own. -/
def RAns (n1 n2 n3 : Int) (xs : List ByteArray) (b : Bool) (w : World) (e : Ending) (w' : World) : Prop :=
  ∃ a g cap, e = .returned (.tuple #[.agg #[.int .i64 n1, .int .i64 n2, .int .i64 n3, .slice a xs.length cap], .bool b]) ∧ w.heap.size ≤ g ∧ Txts w' a g xs ∧ Below w.heap.size w w'
theorem rans_of {s : ByteArray} {w : World} {e : Ending} {w' : World} (h : SupAns s w e w') : RAns (if supB s = true then supN s 4 else 0) (if supB s = true then supN s 6 else 0) (if supB s = true then supN s 8 else 0) (supL s) (supB s) w e w' := by
  obtain ⟨v, rfl, hown, hb⟩ := h
  obtain ⟨a, g, cap, rfl, hg, htx⟩ := txts_of_row hown
  exact ⟨a, g, cap, rfl, hg, htx, hb⟩
theorem supL_len (s : ByteArray) : (supL s).length ≤ 12 := by
  unfold supL
  split
  · unfold supXs; rw [listT_len]; omega
  · simp
theorem readsup_both (s : ByteArray) (hs : s.size ≤ 1048576) : ∃ n1 n2 n3 xs b, xs.length ≤ 12 ∧ (∀ w, Calls Tryd.prog 11 #[.string s] w fun e w' => RAns n1 n2 n3 xs b w e w') ∧ (∀ w, TabAt w → 0 < w.heap.size → Calls Tryd.prog 10 #[.string s] w fun e w' => RAns n1 n2 n3 xs b w e w') := by
  by_cases h : s.size = 64
  · exact ⟨_, _, _, _, _, supL_len s, fun w => (spec_readsup s w h).mono fun _ _ q => rans_of q, fun w q1 q2 => (impl_readsup s w h q1 q2).mono fun _ _ q => rans_of q⟩
  · refine ⟨0, 0, 0, [], false, by simp, fun w => (spec_readsup_no s w h hs).mono ?_, fun w _ _ => (impl_readsup_no s w h).mono ?_⟩
    · rintro e w' ⟨rfl, hb⟩
      exact ⟨none, w.heap.size, 0, rfl, Nat.le_refl _, (fun i hi => by cases hi), hb⟩
    · rintro e w' ⟨rfl, hb⟩
      exact ⟨none, w.heap.size, 0, rfl, Nat.le_refl _, (fun i hi => by cases hi), hb⟩
/-- A config in a variable of its own. -/
structure CVar (b : Nat) (n1 n2 n3 : Int) (a : Option Addr) (g n cap : Nat) (xs : List ByteArray) (w : World) : Prop where
  c0 : w.cell? ⟨b, 0, none⟩ = some (.int .i64 n1)
  c1 : w.cell? ⟨b, 1, none⟩ = some (.int .i64 n2)
  c2 : w.cell? ⟨b, 2, none⟩ = some (.int .i64 n3)
  c3 : w.cell? ⟨b, 3, none⟩ = some (.slice a n cap)
  len : xs.length = n
  tx : Txts w a g xs
theorem CVar.lt {b : Nat} {n1 n2 n3 : Int} {a : Option Addr} {g n cap : Nat} {xs : List ByteArray} {w : World} (h : CVar b n1 n2 n3 a g n cap xs w) : b < w.heap.size := World.block_lt_of_cell? w _ h.c0
theorem CVar.below {b : Nat} {n1 n2 n3 : Int} {a : Option Addr} {g n cap : Nat} {xs : List ByteArray} {w w' : World} (h : CVar b n1 n2 n3 a g n cap xs w) (hb : Below w.heap.size w w') : CVar b n1 n2 n3 a g n cap xs w' :=
  ⟨by rw [hb.cell (p := ⟨b, 0, none⟩) h.lt]; exact h.c0, by rw [hb.cell (p := ⟨b, 1, none⟩) h.lt]; exact h.c1, by rw [hb.cell (p := ⟨b, 2, none⟩) h.lt]; exact h.c2, by rw [hb.cell (p := ⟨b, 3, none⟩) h.lt]; exact h.c3, h.len, h.tx.below hb⟩
theorem CVar.grown {b : Nat} {n1 n2 n3 : Int} {a : Option Addr} {g n cap r : Nat} {xs : List ByteArray} {w w' : World} (h : CVar b n1 n2 n3 a g n cap xs w) (hg : w.grownBy w' (some r)) (hr : b ≠ r) (hne : 0 < xs.length → g ≠ r) : CVar b n1 n2 n3 a g n cap xs w' := by
  have hbk := hg.block b h.lt (fun q => hr (Option.some.inj q))
  exact ⟨by rw [World.cell?_of_block (a := ⟨b, 0, none⟩) hbk]; exact h.c0, by rw [World.cell?_of_block (a := ⟨b, 1, none⟩) hbk]; exact h.c1, by rw [World.cell?_of_block (a := ⟨b, 2, none⟩) hbk]; exact h.c2, by rw [World.cell?_of_block (a := ⟨b, 3, none⟩) hbk]; exact h.c3, h.len, h.tx.grown hg hne⟩
theorem CVar.start (w : World) (n1 n2 n3 : Int) (a : Option Addr) (g n cap : Nat) (xs : List ByteArray) (T : TypeId) (hl : xs.length = n) (h : Txts w a g xs) : CVar w.heap.size n1 n2 n3 a g n cap xs (w.alloc (.cells #[.int .i64 n1, .int .i64 n2, .int .i64 n3, .slice a n cap] T)) :=
  ⟨by rw [World.cell?_alloc_new]; rfl, by rw [World.cell?_alloc_new]; rfl, by rw [World.cell?_alloc_new]; rfl, by rw [World.cell?_alloc_new]; rfl, hl, h.below ((Below.refl _ _).alloc (Nat.le_refl _) _)⟩
theorem CVar.marked {b : Nat} {n1 n2 n3 : Int} {a : Option Addr} {g r n cap : Nat} {xs ys : List ByteArray} {w w' : World} (h : CVar b n1 n2 n3 a g n cap xs w) (hg : w.grownBy w' (some r)) (hr : b ≠ r) (hl : ys.length = n) (ht : Txts w' a r ys) : CVar b n1 n2 n3 a r n cap ys w' := by
  have hbk := hg.block b h.lt (fun q => hr (Option.some.inj q))
  exact ⟨by rw [World.cell?_of_block (a := ⟨b, 0, none⟩) hbk]; exact h.c0, by rw [World.cell?_of_block (a := ⟨b, 1, none⟩) hbk]; exact h.c1, by rw [World.cell?_of_block (a := ⟨b, 2, none⟩) hbk]; exact h.c2, by rw [World.cell?_of_block (a := ⟨b, 3, none⟩) hbk]; exact h.c3, hl, ht⟩
/-- The block that is written when it is marked. -/
theorem CVar.block {b : Nat} {n1 n2 n3 : Int} {a : Option Addr} {g n cap : Nat} {xs : List ByteArray} {w : World} (h : CVar b n1 n2 n3 a g n cap xs w) (B : Nat) (hB : B ≤ g) (hw : B ≤ w.heap.size) : ∃ r, Txts w a r xs ∧ B ≤ r ∧ ∀ k, k < w.heap.size → (0 < xs.length → k ≠ g) → k ≠ r := by
  by_cases h0 : 0 < xs.length
  · exact ⟨g, h.tx, hB, fun k _ q => q h0⟩
  · exact ⟨w.heap.size, fun i hi => by omega, hw, fun k q _ => by omega⟩
end Go.Proofs.YtpkdkkjdlhillaaDoor.crc
