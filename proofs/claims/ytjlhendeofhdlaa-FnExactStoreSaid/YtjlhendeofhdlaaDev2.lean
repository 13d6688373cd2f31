/-
  A device that is handed to a law, copied line by line into new memory; two devices that read alike are found alike.
-/
import Derived.Test.YtjlhendeofhdlaaDev1
import Derived.Laws.MakeOwn
import Derived.Deep.RegionWith
namespace Go.Proofs.Ytjlhendeofhdlaa.dev
open Go.RowKit

/-- The first m cells of a block are there and may be written. -/
def Row (w : World) (g m : Nat) : Prop := ∀ j, j < m → (∃ v, w.cell? ⟨g, j, none⟩ = some v) ∧ w.frozen? ⟨g, j, none⟩ = false
theorem Row.below {w w' : World} {g m B : Nat} (h : Row w g m) (hb : Below B w w') (hg : g < B) : Row w' g m := fun j hj => by
  rw [hb.cell (p := ⟨g, j, none⟩) hg, hb.frozen (p := ⟨g, j, none⟩) hg]; exact h j hj
theorem Row.set {w : World} {g m : Nat} (h : Row w g m) (a : Addr) (x : Value) : Row (w.setCell a x) g m := fun j hj => by
  obtain ⟨⟨v, hv⟩, hf⟩ := h j hj
  exact ⟨cell?_setCell_some hv, by rw [World.frozen?_setCell]; exact hf⟩
def put3 (w : World) (g k : Nat) (l : Ln) : World :=
  ((w.setCell ⟨g, k * 3, none⟩ (.int .i64 l.place)).setCell ⟨g, k * 3 + 1, none⟩ (.string l.data)).setCell ⟨g, k * 3 + 2, none⟩ (.string l.sent)
theorem put3_at {w : World} {g m k : Nat} (h : Row w g m) (hk : k * 3 + 2 < m) (l : Ln) : LnAt (put3 w g k l) (some ⟨g, 0, none⟩) k l := by
  obtain ⟨⟨v0, h0⟩, _⟩ := h (k * 3) (by omega)
  obtain ⟨⟨v1, h1⟩, _⟩ := h (k * 3 + 1) (by omega)
  obtain ⟨⟨v2, h2⟩, _⟩ := h (k * 3 + 2) (by omega)
  have ne : ∀ i j : Nat, i ≠ j → (⟨g, i, none⟩ : Addr) ≠ ⟨g, j, none⟩ := fun i j hij q => hij (congrArg Addr.off q)
  refine ⟨g, 0, rfl, ?_, ?_, ?_⟩ <;> rw [Nat.zero_add] <;> unfold put3
  · rw [World.cell?_setCell_other _ _ _ _ (ne _ _ (by omega)), World.cell?_setCell_other _ _ _ _ (ne _ _ (by omega)), World.cell?_setCell_same _ _ _ h0]
  · rw [World.cell?_setCell_other _ _ _ _ (ne _ _ (by omega))]
    exact World.cell?_setCell_same _ _ _ (by rw [World.cell?_setCell_other _ _ _ _ (ne _ _ (by omega))]; exact h1)
  · exact World.cell?_setCell_same _ _ _ (by rw [World.cell?_setCell_other _ _ _ _ (ne _ _ (by omega)), World.cell?_setCell_other _ _ _ _ (ne _ _ (by omega))]; exact h2)
theorem put3_other {w : World} {g k i : Nat} {l x : Ln} (hik : i ≠ k) (h : LnAt w (some ⟨g, 0, none⟩) i x) : LnAt (put3 w g k l) (some ⟨g, 0, none⟩) i x := by
  obtain ⟨b, off, e, h0, h1, h2⟩ := h
  have e1 : g = b := by simpa using congrArg (fun a : Option Addr => (a.map Addr.block)) e
  have e2 : 0 = off := by simpa using congrArg (fun a : Option Addr => (a.map Addr.off)) e
  subst e1; subst e2
  have ne : ∀ i j : Nat, i ≠ j → (⟨g, i, none⟩ : Addr) ≠ ⟨g, j, none⟩ := fun i j hij q => hij (congrArg Addr.off q)
  refine ⟨g, 0, rfl, ?_, ?_, ?_⟩ <;> unfold put3 <;> rw [World.cell?_setCell_other _ _ _ _ (ne _ _ (by omega)), World.cell?_setCell_other _ _ _ _ (ne _ _ (by omega)), World.cell?_setCell_other _ _ _ _ (ne _ _ (by omega))] <;> assumption
theorem put3_below {a w : World} {B g k : Nat} (h : Below B a w) (hg : B ≤ g) (l : Ln) : Below B a (put3 w g k l) :=
  ((h.setCell (p := ⟨g, k * 3, none⟩) hg _).setCell (p := ⟨g, k * 3 + 1, none⟩) hg _).setCell (p := ⟨g, k * 3 + 2, none⟩) hg _
theorem put3_row {w : World} {g m : Nat} (h : Row w g m) (k : Nat) (l : Ln) : Row (put3 w g k l) g m := ((h.set _ _).set _ _).set _ _

theorem infoLine : (Try.prog.info? 49).map (fun i => (i.zero, i.size, i.bytes)) = some (some (.agg #[.int .i64 0, .string ⟨#[]⟩, .string ⟨#[]⟩]), 3, 40) := by kernel_rfl

/-- The world behind a new row of n lines. -/
def madeLines (w : World) (n : Nat) : World := w.alloc (.cells (madeCells #[.int .i64 0, .string ⟨#[]⟩, .string ⟨#[]⟩] (n * 3)) 49)
theorem run_lines (n : Nat) (h : n ≤ 1048576) (w : World) : (Instr.makeSlice 26 (.int .i64 (n : Int)) (.int .i64 (n : Int))).run Try.prog w = .ok (.slice (some ⟨w.heap.size, 0, none⟩) n n) (madeLines w n) := by
  obtain ⟨i, hi, hzz⟩ := Option.map_eq_some_iff.1 infoLine
  simp only [Prod.mk.injEq] at hzz
  obtain ⟨hz, hs, hb⟩ := hzz
  have hr := run_make (P := Try.prog) w 26 49 i _ Try.underlying26 hi hz .i64 .i64 n n (by omega) (Int.le_refl _) (by rw [hb]; omega) (by omega)
  simp only [Int.toNat_natCast, hs] at hr
  exact hr
theorem made_below (w : World) (n : Nat) : Below w.heap.size w (madeLines w n) := (Below.refl _ _).alloc (Nat.le_refl _) _
theorem made_size (w : World) (n : Nat) : (madeLines w n).heap.size = w.heap.size + 1 := by unfold madeLines; simp
theorem made_row (w : World) (n : Nat) : Row (madeLines w n) w.heap.size (n * 3) := fun j hj => by
  unfold madeLines
  refine ⟨?_, World.frozen?_alloc_new _ _ _ _⟩
  rw [World.cell?_alloc_new]
  exact ⟨_, Array.getElem?_eq_getElem (by rw [size_madeCells]; exact hj)⟩

set_option maxHeartbeats 1000000 in
theorem toLineS_any (w : World) (a : Option Addr) (cap : Nat) (ls : List Ln) (hn : ls.length ≤ 1048576) (hl : Lines w a ls) :
    Calls Try.prog 21 #[.slice a ls.length cap] w fun e w' => ∃ g : Nat, e = .returned (.slice (some ⟨g, 0, none⟩) ls.length ls.length) ∧ w.heap.size ≤ g ∧ Lines w' (some ⟨g, 0, none⟩) ls ∧ Row w' g (ls.length * 3) ∧ Below w.heap.size w w' := by
  have HL : Hid (Lines w a ls) := hl
  have hmk := run_lines ls.length hn w
  have HB0 : Hid (Below w.heap.size w (madeLines w ls.length)) := made_below w ls.length
  have HR0 : Hid (Row (madeLines w ls.length) w.heap.size (ls.length * 3)) := made_row w ls.length
  have HS0 : Hid ((madeLines w ls.length).heap.size = w.heap.size + 1) := made_size w ls.length
  generalize madeLines w ls.length = w1 at hmk HB0 HR0 HS0
  clear hl
  go_enter Try.func21, Try.ntmps21
  go_wp2
  go_loopw [4] (fun i wr => ∃ k : Nat, k ≤ ls.length ∧ i = .int .i64 k ∧ (∀ j (hj : j < ls.length), j < k → LnAt wr (some ⟨w.heap.size, 0, none⟩) j ls[j]) ∧ Row wr w.heap.size (ls.length * 3) ∧ Below w.heap.size w wr ∧ w.heap.size < wr.heap.size) (fun i _ => ls.length - (intOf i).toNat)
  case atStart => exact ⟨0, Nat.zero_le _, rfl, fun j hj h => by omega, HR0.out, HB0.out, by have := HS0.out; omega⟩
  case round =>
    obtain ⟨k, hk, rfl, hat, hrow, hb, hsz⟩ := hrel
    have HA : Hid (∀ j (hj : j < ls.length), j < k → LnAt wr (some ⟨w.heap.size, 0, none⟩) j ls[j]) := hat
    have HR : Hid (Row wr w.heap.size (ls.length * 3)) := hrow
    have HB : Hid (Below w.heap.size w wr) := hb
    clear hat hrow hb
    by_cases hlt : k < ls.length
    · obtain ⟨b, off, rfl, c0, c1, c2⟩ := (HL.out k hlt).below HB.out
      have HC : Hid (∀ w, _) := fun w => toLine_any w ls[k]
      obtain ⟨l, hlk⟩ : ∃ l, l = ls[k] := ⟨_, rfl⟩
      rw [← hlk] at c0 c1 c2 HC
      have HLK : Hid (l = ls[k]) := hlk
      clear hlk hmk
      go_wp2_with fail
      refine (HC.out _).mono ?_
      rintro e w2 ⟨rfl, hb2⟩
      have HR2 : Hid (Row w2 w.heap.size (ls.length * 3)) := HR.out.below hb2 hsz
      have HB2 : Hid (Below w.heap.size w w2) := HB.out.trans (hb2.mono HB.out.size)
      have HA2 : Hid (∀ j (hj : j < ls.length), j < k → LnAt w2 (some ⟨w.heap.size, 0, none⟩) j ls[j]) := fun j hj h => (HA.out j hj h).below hb2
      have hsz2 : w.heap.size < w2.heap.size := Nat.lt_of_lt_of_le hsz hb2.size
      obtain ⟨⟨v0, d0⟩, f0⟩ := HR2.out (k * 3) (by omega)
      obtain ⟨⟨v1, d1⟩, f1⟩ := HR2.out (k * 3 + 1) (by omega)
      obtain ⟨⟨v2, d2⟩, f2⟩ := HR2.out (k * 3 + 2) (by omega)
      clear hb2 c0 c1 c2
      go_wp2
      refine ⟨⟨k + 1, by omega, by go_num, ?_, put3_row HR2.out k l, put3_below HB2.out (Nat.le_refl _) l, by simpa using hsz2⟩, by simp [intOf]; omega⟩
      intro j hj hjk
      by_cases hjl : j < k
      · exact put3_other (by omega) (HA2.out j hj hjl)
      · have hjk' : j = k := by omega
        subst hjk'
        have := put3_at HR2.out (k := j) (by omega) l
        rw [HLK.out] at this ⊢
        exact this
    · go_wp2
      go_ret
      exact ⟨w.heap.size, rfl, Nat.le_refl _, fun i hi => HA.out i hi (by omega), HR.out, HB.out⟩
theorem bcell {W w1 : World} (hb : Below W.heap.size W w1) : (∀ b o, b < W.heap.size → w1.cell? ⟨b, o, none⟩ = W.cell? ⟨b, o, none⟩) ∧ (∀ b o, b < W.heap.size → w1.frozen? ⟨b, o, none⟩ = W.frozen? ⟨b, o, none⟩) :=
  ⟨fun b o h => hb.cell (p := ⟨b, o, none⟩) h, fun b o h => hb.frozen (p := ⟨b, o, none⟩) h⟩
theorem LnAt.set {w : World} {g i : Nat} {l : Ln} (h : LnAt w (some ⟨g, 0, none⟩) i l) (a : Addr) (x : Value) (ha : a.block ≠ g) : LnAt (w.setCell a x) (some ⟨g, 0, none⟩) i l := by
  obtain ⟨b, off, e, h0, h1, h2⟩ := h
  have e1 : g = b := by simpa using congrArg (fun a : Option Addr => (a.map Addr.block)) e
  subst e1
  refine ⟨g, off, e, ?_, ?_, ?_⟩ <;> rw [World.cell?_setCell_other _ _ _ _ (fun q => ha (congrArg Addr.block q))] <;> assumption
theorem Lines.set {w : World} {g : Nat} {ls : List Ln} (h : Lines w (some ⟨g, 0, none⟩) ls) (a : Addr) (x : Value) (ha : a.block ≠ g) : Lines (w.setCell a x) (some ⟨g, 0, none⟩) ls := fun i hi => (h i hi).set a x ha
set_option maxHeartbeats 1000000 in
theorem toDevice_any (w : World) (safe : ByteArray) (a : Option Addr) (cap : Nat) (ls : List Ln) (hn : ls.length ≤ 1048576) (hl : Lines w a ls) :
    Calls Try.prog 7 #[.agg #[.string safe, .slice a ls.length cap]] w fun e w' => ∃ g : Nat, e = .returned (.agg #[.string safe, .slice (some ⟨g, 0, none⟩) ls.length ls.length]) ∧ w.heap.size ≤ g ∧ Lines w' (some ⟨g, 0, none⟩) ls ∧ Row w' g (ls.length * 3) ∧ Below w.heap.size w w' := by
  have HL : Hid (Lines w a ls) := hl
  clear hl
  go_enter Try.func7, Try.ntmps7
  go_wp2_with fail
  have hb0 : Below w.heap.size w (((w.alloc (.cells #[.string safe, .slice a ls.length cap] 24)).alloc (.cells #[.string ⟨#[]⟩, .slice none 0 0] 28)).alloc (.cells #[.string safe, .slice none 0 0] 28)) := by go_grown
  have hsz : (((w.alloc (.cells #[.string safe, .slice a ls.length cap] 24)).alloc (.cells #[.string ⟨#[]⟩, .slice none 0 0] 28)).alloc (.cells #[.string safe, .slice none 0 0] 28)).heap.size = w.heap.size + 3 := by simp
  have f1 : ∀ o, o < 2 → (((w.alloc (.cells #[.string safe, .slice a ls.length cap] 24)).alloc (.cells #[.string ⟨#[]⟩, .slice none 0 0] 28)).alloc (.cells #[.string safe, .slice none 0 0] 28)).cell? ⟨w.heap.size + 1, o, none⟩ = (#[Value.string ⟨#[]⟩, .slice none 0 0] : Array Value)[o]? := by
    intro o _
    rw [World.cell?_alloc_past _ _ _ (by simp), World.cell?_alloc_at _ _ _ _ (by simp)]
  have f2 : ∀ o, o < 2 → (((w.alloc (.cells #[.string safe, .slice a ls.length cap] 24)).alloc (.cells #[.string ⟨#[]⟩, .slice none 0 0] 28)).alloc (.cells #[.string safe, .slice none 0 0] 28)).cell? ⟨w.heap.size + 1 + 1, o, none⟩ = (#[Value.string safe, .slice none 0 0] : Array Value)[o]? := by
    intro o _
    rw [World.cell?_alloc_at _ _ _ _ (by simp)]
  have z1 : ∀ o, (((w.alloc (.cells #[.string safe, .slice a ls.length cap] 24)).alloc (.cells #[.string ⟨#[]⟩, .slice none 0 0] 28)).alloc (.cells #[.string safe, .slice none 0 0] 28)).frozen? ⟨w.heap.size + 1, o, none⟩ = false := by
    intro o
    rw [World.frozen?_alloc_past _ _ _ (by simp), World.frozen?_alloc_at _ _ _ _ (by simp)]
  have z2 : ∀ o, (((w.alloc (.cells #[.string safe, .slice a ls.length cap] 24)).alloc (.cells #[.string ⟨#[]⟩, .slice none 0 0] 28)).alloc (.cells #[.string safe, .slice none 0 0] 28)).frozen? ⟨w.heap.size + 1 + 1, o, none⟩ = false := by
    intro o
    rw [World.frozen?_alloc_at _ _ _ _ (by simp)]
  generalize ((w.alloc (.cells #[.string safe, .slice a ls.length cap] 24)).alloc (.cells #[.string ⟨#[]⟩, .slice none 0 0] 28)).alloc (.cells #[.string safe, .slice none 0 0] 28) = W at hb0 hsz f1 f2 z1 z2
  refine (toLineS_any W a cap ls hn (HL.out.below hb0)).mono ?_
  rintro e w2 ⟨g, rfl, hg, hl2, hr2, hb2⟩
  have r0 : w2.cell? ⟨w.heap.size + 1, 0, none⟩ = some (.string ⟨#[]⟩) := by rw [hb2.cell (p := ⟨w.heap.size + 1, 0, none⟩) (by show w.heap.size + 1 < _; omega)]; exact f1 0 (by omega)
  have r1 : w2.cell? ⟨w.heap.size + 1, 1, none⟩ = some (.slice none 0 0) := by rw [hb2.cell (p := ⟨w.heap.size + 1, 1, none⟩) (by show w.heap.size + 1 < _; omega)]; exact f1 1 (by omega)
  have o0 : w2.cell? ⟨w.heap.size + 1 + 1, 0, none⟩ = some (.string safe) := by rw [hb2.cell (p := ⟨w.heap.size + 1 + 1, 0, none⟩) (by show w.heap.size + 1 + 1 < _; omega)]; exact f2 0 (by omega)
  have o1 : w2.cell? ⟨w.heap.size + 1 + 1, 1, none⟩ = some (.slice none 0 0) := by rw [hb2.cell (p := ⟨w.heap.size + 1 + 1, 1, none⟩) (by show w.heap.size + 1 + 1 < _; omega)]; exact f2 1 (by omega)
  have y10 : w2.frozen? ⟨w.heap.size + 1, 0, none⟩ = false := by rw [hb2.frozen (p := ⟨w.heap.size + 1, 0, none⟩) (by show w.heap.size + 1 < _; omega)]; exact z1 0
  have y11 : w2.frozen? ⟨w.heap.size + 1, 1, none⟩ = false := by rw [hb2.frozen (p := ⟨w.heap.size + 1, 1, none⟩) (by show w.heap.size + 1 < _; omega)]; exact z1 1
  have y21 : w2.frozen? ⟨w.heap.size + 1 + 1, 1, none⟩ = false := by rw [hb2.frozen (p := ⟨w.heap.size + 1 + 1, 1, none⟩) (by show w.heap.size + 1 + 1 < _; omega)]; exact z2 1
  have HL2 : Hid (Lines w2 (some ⟨g, 0, none⟩) ls) := hl2
  have HR2 : Hid (Row w2 g (ls.length * 3)) := hr2
  have HB2 : Hid (Below w.heap.size w w2) := hb0.trans (hb2.mono hb0.size)
  have hg3 : w.heap.size + 3 ≤ g := by omega
  clear f1 f2 z1 z2 hl2 hr2 hb2 hb0 hsz hg
  have hne : (⟨w.heap.size + 1 + 1, 1, none⟩ : Addr) ≠ ⟨w.heap.size + 1, 0, none⟩ := fun q => by have := congrArg Addr.block q; simp at this
  have hne1 : (⟨w.heap.size + 1 + 1, 1, none⟩ : Addr) ≠ ⟨w.heap.size + 1, 1, none⟩ := fun q => by have := congrArg Addr.block q; simp at this
  have hne2 : (⟨w.heap.size + 1, 0, none⟩ : Addr) ≠ ⟨w.heap.size + 1, 1, none⟩ := fun q => by have := congrArg Addr.off q; simp at this
  have q0 : ∀ S : Value, (((w2.setCell ⟨w.heap.size + 1 + 1, 1, none⟩ S).setCell ⟨w.heap.size + 1, 0, none⟩ (.string safe)).setCell ⟨w.heap.size + 1, 1, none⟩ S).cell? ⟨w.heap.size + 1, 0, none⟩ = some (.string safe) := fun S => by
    rw [World.cell?_setCell_other _ _ _ _ (Ne.symm hne2)]
    exact World.cell?_setCell_same _ _ _ (by rw [World.cell?_setCell_other _ _ _ _ hne]; exact r0)
  have q1 : ∀ S : Value, (((w2.setCell ⟨w.heap.size + 1 + 1, 1, none⟩ S).setCell ⟨w.heap.size + 1, 0, none⟩ (.string safe)).setCell ⟨w.heap.size + 1, 1, none⟩ S).cell? ⟨w.heap.size + 1, 1, none⟩ = some S := fun S =>
    World.cell?_setCell_same _ _ _ (by rw [World.cell?_setCell_other _ _ _ _ hne2, World.cell?_setCell_other _ _ _ _ hne1]; exact r1)
  clear hne hne1 hne2
  go_wp2
  refine bodyPost_ret (v := .agg #[.string safe, .slice (some ⟨g, 0, none⟩) ls.length ls.length]) (by simp [results, Try.results7, go_sem, q0, q1]) rfl ?_
  refine ⟨g, rfl, by omega, ?_, ?_, ?_⟩
  · exact ((HL2.out.set _ _ (by show w.heap.size + 1 + 1 ≠ g; omega)).set _ _ (by show w.heap.size + 1 ≠ g; omega)).set _ _ (by show w.heap.size + 1 ≠ g; omega)
  · exact ((HR2.out.set _ _).set _ _).set _ _
  · exact ((HB2.out.setCell (p := ⟨w.heap.size + 1 + 1, 1, none⟩) (by show w.heap.size ≤ w.heap.size + 1 + 1; omega) _).setCell (p := ⟨w.heap.size + 1, 0, none⟩) (by show w.heap.size ≤ w.heap.size + 1; omega) _).setCell (p := ⟨w.heap.size + 1, 1, none⟩) (by show w.heap.size ≤ w.heap.size + 1; omega) _
set_option maxHeartbeats 1000000 in
theorem eqLineS_same (w : World) (a b : Option Addr) (ca cb : Nat) (ls : List Ln) (hn : ls.length ≤ 1048576) (ha : Lines w a ls) (hb : Lines w b ls) :
    Calls Try.prog 28 #[.slice a ls.length ca, .slice b ls.length cb] w fun e w' => e = .returned (.bool true) ∧ Below w.heap.size w w' := by
  have HA : Hid (Lines w a ls) := ha
  have HBb : Hid (Lines w b ls) := hb
  clear ha hb
  have hne : ((ls.length : Int) != (ls.length : Int)) = false := by simp
  go_enter Try.func28, Try.ntmps28
  go_wp2
  go_loopw [5] (fun i wr => ∃ k : Nat, k ≤ ls.length ∧ i = .int .i64 k ∧ Below w.heap.size w wr) (fun i _ => ls.length - (intOf i).toNat)
  case atStart => exact ⟨0, Nat.zero_le _, rfl, Below.refl _ _⟩
  case round =>
    obtain ⟨k, hk, rfl, hb⟩ := hrel
    have HB : Hid (Below w.heap.size w wr) := hb
    clear hb
    by_cases hlt : k < ls.length
    · obtain ⟨b1, o1, rfl, c0, c1, c2⟩ := (HA.out k hlt).below HB.out
      obtain ⟨b2, o2, rfl, d0, d1, d2⟩ := (HBb.out k hlt).below HB.out
      have HC : Hid (∀ w, _) := fun w => eqLine_same w ls[k]
      generalize ls[k] = l at c0 c1 c2 d0 d1 d2 HC
      have hlt' : (k : Int) < (ls.length : Int) := by omega
      go_wp2
      go_region_with (go_at_call 38; refine (HC.out _).mono ?_; rintro e w2 ⟨rfl, hb2⟩)
      all_goals
        have HB2 : Hid (Below w.heap.size w w2) := HB.out.trans ((show Below wr.heap.size wr w2 from ⟨hb2.os, hb2.tape, hb2.output, hb2.size, hb2.block⟩).mono HB.out.size)
        clear hb2 c0 c1 c2 d0 d1 d2
        go_wp2
        go_roundw
        case rel => exact ⟨k + 1, by omega, by go_num, HB2.out⟩
        case measure => simp [intOf]; omega
    · go_wp2
      go_ret
      exact ⟨rfl, HB.out⟩
theorem eqDevice_same (w : World) (safe : ByteArray) (a b : Option Addr) (ca cb : Nat) (ls : List Ln) (hn : ls.length ≤ 1048576) (ha : Lines w a ls) (hb : Lines w b ls) :
    Calls Try.prog 9 #[.agg #[.string safe, .slice a ls.length ca], .agg #[.string safe, .slice b ls.length cb]] w fun e w' => e = .returned (.bool true) ∧ Below w.heap.size w w' := by
  have hss : (safe.toList == safe.toList) = true := by simp
  have hb0 : Below w.heap.size w ((w.alloc (.cells #[.string safe, .slice a ls.length ca] 28)).alloc (.cells #[.string safe, .slice b ls.length cb] 28)) := by go_grown
  have HA : Hid (Lines _ a ls) := ha.below hb0
  have HBb : Hid (Lines _ b ls) := hb.below hb0
  have HB0 : Hid (Below w.heap.size w _) := hb0
  clear ha hb hb0
  go_enter Try.func9, Try.ntmps9
  go_wp2_with fail
  refine (eqLineS_same _ a b ca cb ls hn HA.out HBb.out).mono ?_
  rintro e w2 ⟨rfl, hb2⟩
  go_wp2
  go_ret
  exact ⟨rfl, HB0.out.trans (hb2.mono HB0.out.size)⟩
end Go.Proofs.Ytjlhendeofhdlaa.dev
