/-
  What the laws on fences and losses of power ask: drawn devices alone, what is kept of lines, and the program's functions on devices in boxes.
-/
import Derived.Test.YtgpmpijaggnocaaDrawD3
import Derived.Test.YtgpmpijaggnocaaDevLaw
import Derived.Test.YtgpmpijaggnocaaCrash3
import Derived.Test.YtgpmpijaggnocaaInts
namespace Go.Proofs.Ytgpmpijaggnocaa.dev
open Go.RowKit Go.Maps
open later rd

structure DBox (w : World) (B : Nat) (safe : ByteArray) (aa : Option Addr) (cp : Nat) (ls : List Ln) : Prop where
  c0 : w.cell? ⟨B, 0, none⟩ = some (.string safe)
  c1 : w.cell? ⟨B, 1, none⟩ = some (.slice aa ls.length cp)
  lines : Lines w aa ls
theorem DBox.below {w w' : World} {B : Nat} {safe : ByteArray} {aa : Option Addr} {cp : Nat} {ls : List Ln} (h : DBox w B safe aa cp ls) (hb : Below w.heap.size w w') : DBox w' B safe aa cp ls :=
  have hB : B < w.heap.size := World.block_lt_of_cell? w _ h.c0
  ⟨by rw [hb.cell (p := ⟨B, 0, none⟩) hB]; exact h.c0, by rw [hb.cell (p := ⟨B, 1, none⟩) hB]; exact h.c1, h.lines.below hb⟩
theorem DBox.new {w : World} (safe : ByteArray) {aa : Option Addr} (cp : Nat) {ls : List Ln} (T : TypeId) (hl : Lines w aa ls) : DBox (w.alloc (.cells #[.string safe, .slice aa ls.length cp] T)) w.heap.size safe aa cp ls :=
  ⟨by rw [World.cell?_alloc_new]; rfl, by rw [World.cell?_alloc_new]; rfl, hl.below ((Below.refl _ _).alloc (Nat.le_refl _) _)⟩
theorem DBox.later {X : World} {B : Nat} {safe : ByteArray} {aa : Option Addr} {cp : Nat} {ls : List Ln} (h : DBox X B safe aa cp ls) (n : Later X) : DBox n.world B safe aa cp ls := h.below n.below
theorem DBox.drew {w : World} {B : Nat} {safe : ByteArray} {aa : Option Addr} {cp : Nat} {ls : List Ln} (h : DBox w B safe aa cp ls) : DBox w.drew B safe aa cp ls := h.below ⟨rfl, rfl, rfl, Nat.le_refl _, fun _ _ => rfl⟩
theorem DBox.set {w : World} {B C : Nat} {safe : ByteArray} {aa : Option Addr} {cp : Nat} {ls : List Ln} (h : DBox w B safe aa cp ls) (hB : B ≠ C) (hf : ∀ b off, aa = some ⟨b, off, none⟩ → 0 < ls.length → b ≠ C) (S V : Value) : DBox ((w.setCell ⟨C, 0, none⟩ S).setCell ⟨C, 1, none⟩ V) B safe aa cp ls :=
  ⟨by rw [set2_other hB]; exact h.c0, by rw [set2_other hB]; exact h.c1, lines_set2 h.lines hf S V⟩
theorem Sized.each {safe : ByteArray} {ls : List Ln} (h : Sized safe ls) : ∀ i (hi : i < ls.length), ls[i].data.size ≤ 1048576 ∧ ls[i].sent.size ≤ 1048576 := fun i hi => by
  have := h.2.2 ls[i] (List.getElem_mem hi)
  omega
theorem ok_sized {safe : ByteArray} {ls : List Ln} (h : DevOk safe ls) : Sized safe ls := by
  obtain ⟨z1, z2, z3⟩ := ok_sizes h
  exact ⟨by omega, by omega, z3⟩
def Far (w : World) (aa : Option Addr) (L : List Ln) : Prop := ∀ b off, aa = some ⟨b, off, none⟩ → 0 < L.length → w.heap.size ≤ b
theorem far_of {w : World} {aa : Option Addr} {g : Nat} {L : List Ln} (hg : w.heap.size ≤ g) (ha : 0 < L.length → aa = some ⟨g, 0, none⟩) : Far w aa L := fun b off e hp => by
  have := ha hp
  rw [e] at this
  injection this with q
  injection q with q1
  omega
/-- A device comes back, in new memory. -/
def Alone (st : ByteArray) (L : List Ln) (w : World) (e : Ending) (w' : World) : Prop := ∃ aa cp, e = .returned (.agg #[.string st, .slice aa L.length cp]) ∧ Lines w' aa L ∧ Far w aa L ∧ Below w.heap.size w w'
def Back (st : ByteArray) (L : List Ln) (ok : Bool) (w : World) (e : Ending) (w' : World) : Prop := ∃ aa cp, e = .returned (.tuple #[.agg #[.string st, .slice aa L.length cp], .bool ok]) ∧ Lines w' aa L ∧ Far w aa L ∧ Below w.heap.size w w'
theorem iFlush (w : World) (safe : ByteArray) (a : Option Addr) (cap : Nat) (ls : List Ln) (p : Int) (hl : Lines w a ls) (hok : DevOk safe ls) (h0 : 0 ≤ p) (h1 : p < ((safe.size / 64 : Nat) : Int)) :
    Calls Try.prog 19 #[.agg #[.string safe, .slice a ls.length cap], .int .i64 p] w (Back safe (flushL ls p) true w) := by
  have hz := ok_sized hok
  refine (impl_flush w safe a cap ls p (by have := hz.1; omega) (by have := hz.2.1; omega) hl hz.each hok h0 h1).mono ?_
  rintro e w' ⟨u, rfl, ho, hb⟩
  obtain ⟨aa, g, cp, rfl, h2, h3, h4, _⟩ := lines_of_row ho
  exact ⟨aa, cp, rfl, h4, far_of h2 h3, hb⟩
theorem iFence (w : World) (safe : ByteArray) (a : Option Addr) (cap : Nat) (ls : List Ln) (hl : Lines w a ls) (hok : DevOk safe ls) :
    Calls Try.prog 20 #[.agg #[.string safe, .slice a ls.length cap]] w (Alone (fenceS safe ls) (fenceL ls) w) := by
  have hz := ok_sized hok
  refine (impl_fence w safe a cap ls (by have := hz.1; omega) (by have := hz.2.1; omega) hl hz.each hok).mono ?_
  rintro e w' ⟨u, rfl, ho, hb⟩
  obtain ⟨aa, g, cp, rfl, h2, h3, h4, _⟩ := lines_of_row ho
  exact ⟨aa, cp, rfl, h4, far_of h2 h3, hb⟩
theorem iRisk (w : World) (safe : ByteArray) (a : Option Addr) (cap : Nat) (ls : List Ln) (hl : Lines w a ls) (hok : DevOk safe ls) :
    Calls Try.prog 21 #[.agg #[.string safe, .slice a ls.length cap]] w fun e w' => ∃ aa cp, e = .returned (.slice aa (riskL safe ls).length cp) ∧ Below w.heap.size w w' := by
  have hz := ok_sized hok
  refine (impl_risk w safe a cap ls (by have := hz.1; omega) (by have := hz.2.1; omega) hl hz.each hok).mono ?_
  rintro e w' ⟨v, rfl, ho, hb⟩
  obtain ⟨aa, g, cp, rfl, _, hi⟩ := ints_of_row ho
  exact ⟨aa, cp, rfl, hb⟩
theorem iCrash (w : World) (safe : ByteArray) (a : Option Addr) (cap : Nat) (ls : List Ln) (kb : Option Addr) (kc : Nat) (ks : List Int) (hkn : ks.length ≤ 1048576) (hl : Lines w a ls) (hks : Nums w kb ks) (hok : DevOk safe ls) :
    Calls Try.prog 22 #[.agg #[.string safe, .slice a ls.length cap], .slice kb ks.length kc] w fun e w' => e = .returned (.agg #[.string (crashStr safe ls ks), .slice none 0 0]) ∧ Below w.heap.size w w' := by
  have hz := ok_sized hok
  exact impl_crash w safe a cap ls kb kc ks (by have := hz.1; omega) (by have := hz.2.1; omega) hkn hl hks hz.each hok
theorem iSeen (w : World) (safe : ByteArray) (a : Option Addr) (cap : Nat) (ls : List Ln) (hl : Lines w a ls) (hok : DevOk safe ls) :
    Calls Try.prog 14 #[.agg #[.string safe, .slice a ls.length cap]] w fun e w' => e = .returned (.string (seenStr safe ls)) ∧ Below w.heap.size w w' := by
  have hz := ok_sized hok
  exact impl_seen w safe a cap ls (by have := hz.1; omega) (by have := hz.2.1; omega) hl hz.each hok
theorem sSeen (w : World) (safe : ByteArray) (a : Option Addr) (cap : Nat) (ls : List Ln) (hl : Lines w a ls) (hok : DevOk safe ls) :
    Calls Try.prog 10 #[.agg #[.string safe, .slice a ls.length cap]] w fun e w' => e = .returned (.string (seenStr safe ls)) ∧ Below w.heap.size w w' := by
  have hz := ok_sized hok
  exact spec_seen w safe a cap ls (by have := hz.1; omega) (by have := hz.2.1; omega) hl hz.each hok
theorem bool_is {b : Bool} {p : Prop} [Decidable p] (h : b = true ↔ p) : b = decide p := by
  by_cases hp : p
  · rw [h.2 hp, decide_eq_true hp]
  · rw [decide_eq_false hp]
    cases b with
    | false => rfl
    | true => exact absurd (h.1 rfl) hp
open Classical in
theorem iOkB (safe : ByteArray) (ls : List Ln) (hz : Sized safe ls) : ∃ b : Bool, (b = true ↔ DevOk safe ls) ∧ (∀ (w : World) (a : Option Addr) (cap : Nat), Lines w a ls → Calls Try.prog 16 #[.agg #[.string safe, .slice a ls.length cap]] w fun e w' => e = .returned (.bool b) ∧ Below w.heap.size w w')
    ∧ ∀ (w : World) (a : Option Addr) (cap : Nat), Lines w a ls → Calls Try.prog 18 #[.agg #[.string safe, .slice a ls.length cap]] w fun e w' => e = .returned (.bool b) ∧ Below w.heap.size w w' := by
  refine ⟨decide (DevOk safe ls), decide_eq_true_iff, fun w a cap hl => ?_, fun w a cap hl => ?_⟩
  · refine (impl_ok w safe a cap ls (by have := hz.1; omega) (by have := hz.2.1; omega) hl hz.each).mono ?_
    rintro e w' ⟨b, rfl, hb, hbe⟩
    rw [bool_is hb]
    exact ⟨rfl, hbe⟩
  · refine (spec_ok w safe a cap ls (by have := hz.1; omega) (by have := hz.2.1; omega) hl hz.each).mono ?_
    rintro e w' ⟨b, rfl, hb, hbe⟩
    rw [bool_is hb]
    exact ⟨rfl, hbe⟩
theorem field_first (st : ByteArray) (w : World) : (Instr.field 26 (.agg #[.string st, .slice none 0 0]) 0).run Try.prog w = .ok (.string st) w := by kernel_rfl
theorem draw_dev (w : World) (a : Option Addr) (len cap : Nat) (hs : len ≤ 1048576) (hc : RdCode w w.heap.size a len) :
    Calls Try.prog 47 #[.slice a len cap] w fun e w' => ∃ (safe : ByteArray) (ls : List Ln) (aa : Option Addr) (cp : Nat), e = .returned (.agg #[.string safe, .slice aa ls.length cp]) ∧ Sized safe ls ∧ Lines w' aa ls ∧ (∀ b off, aa = some ⟨b, off, none⟩ → 0 < ls.length → w.heap.size < b) ∧ Below w.heap.size w w' := by
  obtain ⟨W, hW⟩ : ∃ W, W = w.alloc (.cells #[.string ⟨#[]⟩, .slice none 0 0] 26) := ⟨_, rfl⟩
  have HW : Hid (W = w.alloc (.cells #[.string ⟨#[]⟩, .slice none 0 0] 26)) := hW
  have hb0 : Below w.heap.size w W := by rw [hW]; exact (Below.refl _ _).alloc (Nat.le_refl _) _
  have HC : Hid (RdCode W W.heap.size a len) := hc.below hb0 hb0.size
  have HB0 : Hid (Below w.heap.size w W) := hb0
  have hlt : w.heap.size < W.heap.size := by rw [hW]; simp
  have HK : Hid (W.cell? ⟨w.heap.size, 0, none⟩ = some (.string ⟨#[]⟩) ∧ W.cell? ⟨w.heap.size, 1, none⟩ = some (.slice none 0 0) ∧ ∀ k, W.frozen? ⟨w.heap.size, k, none⟩ = false) :=
    ⟨by rw [hW, World.cell?_alloc_new]; rfl, by rw [hW, World.cell?_alloc_new]; rfl, fun k => by rw [hW]; exact World.frozen?_alloc_new _ _ _ _⟩
  clear hW hc hb0
  go_enter Try.func47, Try.ntmps47
  go_wp2_with fail
  rw [← HW.out]
  refine (open_any W a len cap hs HC.out).mono ?_
  rintro e w1 ⟨rfl, hr1, hb1⟩
  have HR1 : Hid (Rd w1 W.heap.size a len cap) := hr1
  have HB1 : Hid (Below W.heap.size W w1) := hb1
  clear hr1 hb1
  go_wp2_with fail
  refine (device_any w1 _ a len cap HR1.out).mono ?_
  rintro e w2 ⟨safe, ls, aa, cp, rfl, z1, z2, z3, hl, hf, hr2, hg⟩
  have hs1 := HB1.out.size
  have nN : w.heap.size ≠ W.heap.size := by omega
  have q0 : w2.cell? ⟨w.heap.size, 0, none⟩ = some (.string ⟨#[]⟩) := cell_grown hg nN (by rw [HB1.out.cell (p := ⟨w.heap.size, 0, none⟩) hlt]; exact HK.out.1)
  have q1 : w2.cell? ⟨w.heap.size, 1, none⟩ = some (.slice none 0 0) := cell_grown hg nN (by rw [HB1.out.cell (p := ⟨w.heap.size, 1, none⟩) hlt]; exact HK.out.2.1)
  have fr : ∀ k, w2.frozen? ⟨w.heap.size, k, none⟩ = false := fun k => by rw [frozen_grown hg nN (by omega), HB1.out.frozen (p := ⟨w.heap.size, k, none⟩) hlt]; exact HK.out.2.2 k
  have y0 := fr 0
  have y1 := fr 1
  obtain ⟨p0, p1⟩ := set2_cells q0 q1 (.string safe) (.slice aa ls.length cp)
  have HF : Hid (∀ b off, aa = some ⟨b, off, none⟩ → 0 < ls.length → w.heap.size < b) := fun b off e hp => by have := hf b off e hp; omega
  have HL : Hid (Lines _ aa ls) := lines_set2 (C := w.heap.size) hl (fun b off e hp => by have := HF.out b off e hp; omega) (.string safe) (.slice aa ls.length cp)
  have hw1 : Below w.heap.size w w1 := HB0.out.trans (HB1.out.mono HB0.out.size)
  have hw2 : Below w.heap.size w w2 := below_of hw1 hg (by omega) hw1.size
  have HB2 : Hid (Below w.heap.size w ((w2.setCell ⟨w.heap.size, 0, none⟩ (.string safe)).setCell ⟨w.heap.size, 1, none⟩ (.slice aa ls.length cp))) := (hw2.setCell (p := ⟨w.heap.size, 0, none⟩) (Nat.le_refl _) _).setCell (p := ⟨w.heap.size, 1, none⟩) (Nat.le_refl _) _
  have HZ : Hid (Sized safe ls) := ⟨z1, z2, z3⟩
  clear z1 z2 z3 hl hf hr2 hg fr hw1 hw2 hs1 nN
  go_wp2
  refine bodyPost_ret (v := .agg #[.string safe, .slice aa ls.length cp]) (by simp [results, Try.results47, go_sem, p0, p1]) rfl ?_
  exact ⟨safe, ls, aa, cp, rfl, HZ.out, HL.out, HF.out, HB2.out⟩
theorem draw_fence (w : World) (a : Option Addr) (len cap : Nat) (hs : len ≤ 1048576) (hc : RdCode w w.heap.size a len) :
    Calls Try.prog 17 #[.slice a len cap] w fun e w' => ∃ (safe : ByteArray) (ls : List Ln) (aa : Option Addr) (cp : Nat), e = .returned (.agg #[.string safe, .slice aa ls.length cp]) ∧ Sized safe ls ∧ Lines w' aa ls ∧ Below w.heap.size w w' := by
  obtain ⟨W, hW⟩ : ∃ W, W = w.alloc (.cells #[.string ⟨#[]⟩, .slice none 0 0] 26) := ⟨_, rfl⟩
  have HW : Hid (W = w.alloc (.cells #[.string ⟨#[]⟩, .slice none 0 0] 26)) := hW
  have hb0 : Below w.heap.size w W := by rw [hW]; exact (Below.refl _ _).alloc (Nat.le_refl _) _
  have HC : Hid (RdCode W W.heap.size a len) := hc.below hb0 hb0.size
  have HB0 : Hid (Below w.heap.size w W) := hb0
  have hlt : w.heap.size < W.heap.size := by rw [hW]; simp
  have HK : Hid (∀ w', Below W.heap.size W w' → w'.cell? ⟨w.heap.size, 0, none⟩ = some (.string ⟨#[]⟩) ∧ w'.cell? ⟨w.heap.size, 1, none⟩ = some (.slice none 0 0) ∧ ∀ k, w'.frozen? ⟨w.heap.size, k, none⟩ = false) := fun w' h =>
    ⟨by rw [h.cell (p := ⟨w.heap.size, 0, none⟩) hlt, hW, World.cell?_alloc_new]; rfl, by rw [h.cell (p := ⟨w.heap.size, 1, none⟩) hlt, hW, World.cell?_alloc_new]; rfl, fun k => by rw [h.frozen (p := ⟨w.heap.size, k, none⟩) hlt, hW]; exact World.frozen?_alloc_new _ _ _ _⟩
  clear hW hc hb0
  go_enter Try.func17, Try.ntmps17
  go_wp2_with fail
  rw [← HW.out]
  refine (draw_dev W a len cap hs HC.out).mono ?_
  rintro e w1 ⟨safe, ls, aa, cp, rfl, hz, hl, hf, hb1⟩
  obtain ⟨q0, q1, fr⟩ := HK.out w1 hb1
  have y0 := fr 0
  have y1 := fr 1
  obtain ⟨p0, p1⟩ := set2_cells q0 q1 (.string safe) (.slice aa ls.length cp)
  have HL : Hid (Lines _ aa ls) := lines_set2 (C := w.heap.size) hl (fun b off e hp => by have := hf b off e hp; omega) (.string safe) (.slice aa ls.length cp)
  have HB2 : Hid (Below w.heap.size w ((w1.setCell ⟨w.heap.size, 0, none⟩ (.string safe)).setCell ⟨w.heap.size, 1, none⟩ (.slice aa ls.length cp))) := ((HB0.out.trans (hb1.mono HB0.out.size)).setCell (p := ⟨w.heap.size, 0, none⟩) (Nat.le_refl _) _).setCell (p := ⟨w.heap.size, 1, none⟩) (Nat.le_refl _) _
  have HZ : Hid (Sized safe ls) := hz
  clear hz hl hf hb1 fr
  go_wp2
  refine bodyPost_ret (v := .agg #[.string safe, .slice aa ls.length cp]) (by simp [results, Try.results17, go_sem, p0, p1]) rfl ?_
  exact ⟨safe, ls, aa, cp, rfl, HZ.out, HL.out, HB2.out⟩
theorem byteOf_any (w : World) (a : Option Addr) (len cap : Nat) (k : Nat) (hs : len ≤ 1048576) (hk : k ≤ 1000) (hc : RdCode w w.heap.size a len) :
    Calls Try.prog 50 #[.slice a len cap, .int .i64 (k : Int)] w fun e w' => ∃ v : Nat, e = .returned (.int .i64 v) ∧ v < 256 ∧ w = w' := by
  by_cases h0 : len = 0
  · subst h0
    go_enter Try.func50, Try.ntmps50
    go_wp2
    go_ret
    exact ⟨0, rfl, by omega, rfl⟩
  · have hm : k % len < len := Nat.mod_lt _ (by omega)
    obtain ⟨b, off, v, rfl, _, hcell, hv⟩ := hc (k % len) hm
    have e0 : ((len : Int) == 0) = false := by simp; omega
    have e1 : (k : Int).tmod (len : Int) = ((k % len : Nat) : Int) := by rw [Int.tmod_eq_emod_of_nonneg (by omega)]; rfl
    have e3 : (0 : Int) ≤ ((k % len : Nat) : Int) := by omega
    have e4 : ((k % len : Nat) : Int) < (len : Int) := by omega
    have e5 : ((k % len : Nat) : Int).toNat = k % len := by omega
    have e6 : (k : Int) % (len : Int) = ((k % len : Nat) : Int) := rfl
    generalize k % len = r at hcell e1 e3 e4 e5 e6
    clear hc
    go_enter Try.func50, Try.ntmps50
    go_wp2
    go_ret
    exact ⟨v, by go_num, hv, rfl⟩
set_option maxHeartbeats 1000000 in
theorem keepOf_any (w : World) (a : Option Addr) (len cap : Nat) (hs : len ≤ 1048576) (hc : RdCode w w.heap.size a len) :
    Calls Try.prog 23 #[.slice a len cap, .int .i64 9] w fun e w' => ∃ (ks : List Int) (aa : Option Addr) (cp : Nat), e = .returned (.slice aa ks.length cp) ∧ ks.length ≤ 9 ∧ Nums w' aa ks ∧ Below w.heap.size w w' := by
  have HC : Hid (RdCode w w.heap.size a len) := hc
  have HO0 : Hid ((w.alloc (.cells #[] 2)).ownsRow w.heap.size 2 1 (.slice (some ⟨w.heap.size, 0, none⟩) 0 0) 0 []) := ⟨rfl, .inr ⟨w.heap.size, 0, #[], rfl, Nat.le_refl _, heap_alloc_new w _, Nat.le_refl _, Nat.zero_le _, rfl, rfl⟩⟩
  have HB0 : Hid (Below w.heap.size w (w.alloc (.cells #[] 2))) := (Below.refl _ _).alloc (Nat.le_refl _) _
  clear hc
  go_enter Try.func23, Try.ntmps23
  go_wp2
  go_loopw [5, 6] (fun o i wr => ∃ xs : List Int, xs.length ≤ 9 ∧ i = .int .i64 (xs.length : Int) ∧ wr.ownsRow w.heap.size 2 1 o xs.length (xs.map (Value.int .i64)) ∧ Below w.heap.size w wr) (fun _ i _ => 9 - (intOf i).toNat)
  case atStart => exact ⟨[], by simp, rfl, HO0.out, HB0.out⟩
  case round =>
    obtain ⟨xs, hx, rfl, hown, hb⟩ := hrel
    have HO : Hid (wr.ownsRow w.heap.size 2 1 _ xs.length (xs.map (Value.int .i64))) := hown
    have HB : Hid (Below w.heap.size w wr) := hb
    clear hown hb
    by_cases hlt : (xs.length : Int) < 9
    · have HCr : Hid (RdCode wr wr.heap.size a len) := HC.out.below HB.out HB.out.size
      have HBY : Hid (Calls _ _ _ _ _) := byteOf_any wr a len cap (7 * xs.length + 3) hs (by omega) HCr.out
      rw [show ((7 * xs.length + 3 : Nat) : Int) = 7 * (xs.length : Int) + 3 by omega] at HBY
      have HX9 : Hid (xs.length < 9) := by show xs.length < 9; omega
      go_wp2_with fail
      refine HBY.out.mono ?_
      rintro e w2 ⟨v, rfl, hv, rfl⟩
      have hd1 : (v : Int).tdiv 5 = (v : Int) / 5 := Int.tdiv_eq_ediv_of_nonneg (by omega)
      have hd2 : ((v : Int) / 5).tmod 3 = (v : Int) / 5 % 3 := Int.tmod_eq_emod_of_nonneg (by omega)
      go_wp2_with (at_builtin; refine ints.wpList_push _ rfl _ _ rfl w.heap.size _ xs ((v : Int) / 5 % 3) HO.out rfl rfl (by have := HX9.out; omega) HB.out.size ?_; intro g cp w3 hown3 hb3 hs3)
      have HO3 : Hid (w3.ownsRow w.heap.size 2 1 (.slice (some ⟨g, 0, none⟩) (xs.length + 1) cp) (xs ++ [(v : Int) / 5 % 3]).length ((xs ++ [(v : Int) / 5 % 3]).map (Value.int .i64))) := hown3
      have HB3 : Hid (Below w.heap.size w w3) := HB.out.trans hb3
      clear hown3 hb3 hs3
      go_roundw
      case rel => exact ⟨xs ++ [(v : Int) / 5 % 3], by have := HX9.out; simp; omega, by simp, HO3.out, HB3.out⟩
      case measure => simp [intOf]; omega
    · go_wp2
      go_ret
      obtain ⟨aa, g, cp, hv, _, hi⟩ := ints_of_row HO.out
      exact ⟨xs, aa, ⟨cp, congrArg Ending.returned hv⟩, hx, hi.nums, HB.out⟩
end Go.Proofs.Ytgpmpijaggnocaa.dev
