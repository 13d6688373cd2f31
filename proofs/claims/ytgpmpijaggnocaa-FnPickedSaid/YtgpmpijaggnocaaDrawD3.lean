/-
  The draws of devices, with lines, places and texts beside them.
-/
import Derived.Test.YtgpmpijaggnocaaDrawD2
import Derived.Test.YtgpmpijaggnocaaDev9
namespace Go.Proofs.Ytgpmpijaggnocaa.dev
open Go.RowKit Go.Maps
open later rd zeros wmath

theorem lines_grown {w w' : World} {aa : Option Addr} {ls : List Ln} {r : Nat} (h : Lines w aa ls) (hg : w.grownBy w' (some r)) (hne : ∀ b off, aa = some ⟨b, off, none⟩ → 0 < ls.length → b ≠ r) : Lines w' aa ls := fun i hi => by
  obtain ⟨b, off, e, h0, h1, h2⟩ := h i hi
  have := hne b off e (by omega)
  exact ⟨b, off, e, cell_grown hg this h0, cell_grown hg this h1, cell_grown hg this h2⟩
theorem lines_set2 {w : World} {aa : Option Addr} {ls : List Ln} {C : Nat} (h : Lines w aa ls) (hne : ∀ b off, aa = some ⟨b, off, none⟩ → 0 < ls.length → b ≠ C) (S V : Value) : Lines ((w.setCell ⟨C, 0, none⟩ S).setCell ⟨C, 1, none⟩ V) aa ls := fun i hi => by
  obtain ⟨b, off, e, h0, h1, h2⟩ := h i hi
  have := hne b off e (by omega)
  exact ⟨b, off, e, by rw [set2_other this]; exact h0, by rw [set2_other this]; exact h1, by rw [set2_other this]; exact h2⟩
theorem lines_lt {w : World} {aa : Option Addr} {ls : List Ln} (h : Lines w aa ls) : ∀ b off, aa = some ⟨b, off, none⟩ → 0 < ls.length → b < w.heap.size := fun b off e hp => by
  obtain ⟨b', off', e', h0, _⟩ := h 0 hp
  rw [e] at e'
  injection e' with q
  injection q with q1
  rw [q1]
  exact World.block_lt_of_cell? w _ h0
/-- A device in the box D, the result's box N, the reader in block R. -/
structure Dealt (w w' : World) (R : Nat) (a : Option Addr) (len cap : Nat) (N D : Nat) (safe : ByteArray) (aa : Option Addr) (cp : Nat) (ls : List Ln) : Prop where
  rd : Rd w' R a len cap
  below : Below w.heap.size w w'
  low : w.heap.size ≤ N
  nr : N < R
  dr : R < D
  res0 : w'.cell? ⟨N, 0, none⟩ = some (.string ⟨#[]⟩)
  res1 : w'.cell? ⟨N, 1, none⟩ = some (.slice none 0 0)
  fres0 : w'.frozen? ⟨N, 0, none⟩ = false
  fres1 : w'.frozen? ⟨N, 1, none⟩ = false
  box0 : w'.cell? ⟨D, 0, none⟩ = some (.string safe)
  box1 : w'.cell? ⟨D, 1, none⟩ = some (.slice aa ls.length cp)
  lines : Lines w' aa ls
  far : ∀ b off, aa = some ⟨b, off, none⟩ → 0 < ls.length → b ≠ R ∧ b ≠ N
theorem Dealt.drawn {w w' w2 : World} {R : Nat} {a : Option Addr} {len cap N D : Nat} {safe : ByteArray} {aa : Option Addr} {cp : Nat} {ls : List Ln} (h : Dealt w w' R a len cap N D safe aa cp ls) (hr : Rd w2 R a len cap) (hg : w'.grownBy w2 (some R)) : Dealt w w2 R a len cap N D safe aa cp ls := by
  have h1 := h.low; have h2 := h.nr; have h3 := h.dr
  have hN : N < w'.heap.size := World.block_lt_of_cell? w' _ h.res0
  have nN : N ≠ R := by omega
  have nD : D ≠ R := by omega
  exact ⟨hr, below_of h.below hg (by omega) h.below.size, h.low, h.nr, h.dr, cell_grown hg nN h.res0, cell_grown hg nN h.res1, by rw [frozen_grown hg nN hN]; exact h.fres0, by rw [frozen_grown hg nN hN]; exact h.fres1, cell_grown hg nD h.box0, cell_grown hg nD h.box1, lines_grown h.lines hg (fun b off e hp => (h.far b off e hp).1), h.far⟩
theorem Dealt.later {w w' w2 : World} {R : Nat} {a : Option Addr} {len cap N D : Nat} {safe : ByteArray} {aa : Option Addr} {cp : Nat} {ls : List Ln} (h : Dealt w w' R a len cap N D safe aa cp ls) (hb : Below w'.heap.size w' w2) : Dealt w w2 R a len cap N D safe aa cp ls := by
  have hN : N < w'.heap.size := World.block_lt_of_cell? w' _ h.res0
  have hD : D < w'.heap.size := World.block_lt_of_cell? w' _ h.box0
  exact ⟨h.rd.later hb, h.below.trans (hb.mono h.below.size), h.low, h.nr, h.dr, by rw [hb.cell (p := ⟨N, 0, none⟩) hN]; exact h.res0, by rw [hb.cell (p := ⟨N, 1, none⟩) hN]; exact h.res1, by rw [hb.frozen (p := ⟨N, 0, none⟩) hN]; exact h.fres0, by rw [hb.frozen (p := ⟨N, 1, none⟩) hN]; exact h.fres1, by rw [hb.cell (p := ⟨D, 0, none⟩) hD]; exact h.box0, by rw [hb.cell (p := ⟨D, 1, none⟩) hD]; exact h.box1, h.lines.below hb, h.far⟩
theorem Dealt.drew {w w' : World} {R : Nat} {a : Option Addr} {len cap N D : Nat} {safe : ByteArray} {aa : Option Addr} {cp : Nat} {ls : List Ln} (h : Dealt w w' R a len cap N D safe aa cp ls) : Dealt w w'.drew R a len cap N D safe aa cp ls := h.later ⟨rfl, rfl, rfl, Nat.le_refl _, fun _ _ => rfl⟩
theorem Dealt.ends {w w' : World} {R : Nat} {a : Option Addr} {len cap N D : Nat} {safe : ByteArray} {aa : Option Addr} {cp : Nat} {ls : List Ln} (h : Dealt w w' R a len cap N D safe aa cp ls) (S V : Value) :
    Lines ((w'.setCell ⟨N, 0, none⟩ S).setCell ⟨N, 1, none⟩ V) aa ls ∧ Below w.heap.size w ((w'.setCell ⟨N, 0, none⟩ S).setCell ⟨N, 1, none⟩ V) :=
  ⟨lines_set2 h.lines (fun b off e hp => (h.far b off e hp).2) _ _, (h.below.setCell (p := ⟨N, 0, none⟩) h.low _).setCell (p := ⟨N, 1, none⟩) h.low _⟩
theorem Dealt.boxes {w w' : World} {R : Nat} {a : Option Addr} {len cap N D : Nat} {safe : ByteArray} {aa : Option Addr} {cp : Nat} {ls : List Ln} (h : Dealt w w' R a len cap N D safe aa cp ls) (S V : Value) :
    ((w'.setCell ⟨N, 0, none⟩ S).setCell ⟨N, 1, none⟩ V).cell? ⟨D, 0, none⟩ = some (.string safe) ∧ ((w'.setCell ⟨N, 0, none⟩ S).setCell ⟨N, 1, none⟩ V).cell? ⟨D, 1, none⟩ = some (.slice aa ls.length cp) := by
  have h1 := h.nr
  have h2 := h.dr
  exact ⟨by rw [set2_other (by omega)]; exact h.box0, by rw [set2_other (by omega)]; exact h.box1⟩
/-- The device is drawn, and put into its box. -/
theorem Dealt.first {w W w1 w2 : World} {R : Nat} {a : Option Addr} {len cap : Nat} {safe : ByteArray} {aa : Option Addr} {cp : Nat} {ls : List Ln} (hW : W = w.alloc (.cells #[.string ⟨#[]⟩, .slice none 0 0] 26)) (hR : R = W.heap.size) (hb1 : Below W.heap.size W w1) (hr1 : Rd w1 R a len cap) (hl : Lines w2 aa ls) (hf : ∀ b off, aa = some ⟨b, off, none⟩ → 0 < ls.length → w1.heap.size ≤ b) (hr2 : Rd w2 R a len cap) (hg : w1.grownBy w2 (some R)) :
    Dealt w (w2.alloc (.cells #[.string safe, .slice aa ls.length cp] 26)) R a len cap w.heap.size w2.heap.size safe aa cp ls := by
  have hWs : W.heap.size = w.heap.size + 1 := by rw [hW]; simp
  have hb0 : Below w.heap.size w W := by rw [hW]; exact (Below.refl _ _).alloc (Nat.le_refl _) _
  have hw1 : Below w.heap.size w w1 := hb0.trans (hb1.mono hb0.size)
  have hR1 := hr1.size
  have hR2 := hr2.size
  have hlt : w.heap.size < W.heap.size := by omega
  have nN : w.heap.size ≠ R := by omega
  have hw2 : Below w.heap.size w w2 := below_of hw1 hg (by omega) hw1.size
  have hba : Below w2.heap.size w2 (w2.alloc (.cells #[.string safe, .slice aa ls.length cp] 26)) := (Below.refl _ _).alloc (Nat.le_refl _) _
  have c0 : W.cell? ⟨w.heap.size, 0, none⟩ = some (.string ⟨#[]⟩) := by rw [hW, World.cell?_alloc_new]; rfl
  have c1 : W.cell? ⟨w.heap.size, 1, none⟩ = some (.slice none 0 0) := by rw [hW, World.cell?_alloc_new]; rfl
  have f0 : ∀ k, W.frozen? ⟨w.heap.size, k, none⟩ = false := fun k => by rw [hW]; exact World.frozen?_alloc_new _ _ _ _
  have d0 : w2.cell? ⟨w.heap.size, 0, none⟩ = some (.string ⟨#[]⟩) := cell_grown hg nN (by rw [hb1.cell (p := ⟨w.heap.size, 0, none⟩) hlt]; exact c0)
  have d1 : w2.cell? ⟨w.heap.size, 1, none⟩ = some (.slice none 0 0) := cell_grown hg nN (by rw [hb1.cell (p := ⟨w.heap.size, 1, none⟩) hlt]; exact c1)
  have e0 : ∀ k, w2.frozen? ⟨w.heap.size, k, none⟩ = false := fun k => by rw [frozen_grown hg nN (by omega), hb1.frozen (p := ⟨w.heap.size, k, none⟩) hlt]; exact f0 k
  have hN2 : w.heap.size < w2.heap.size := World.block_lt_of_cell? w2 _ d0
  exact ⟨hr2.alloc _, hw2.trans (hba.mono hw2.size), Nat.le_refl _, by omega, by omega, by rw [hba.cell (p := ⟨w.heap.size, 0, none⟩) hN2]; exact d0, by rw [hba.cell (p := ⟨w.heap.size, 1, none⟩) hN2]; exact d1, by rw [hba.frozen (p := ⟨w.heap.size, 0, none⟩) hN2]; exact e0 0, by rw [hba.frozen (p := ⟨w.heap.size, 1, none⟩) hN2]; exact e0 1, by rw [World.cell?_alloc_new]; rfl, by rw [World.cell?_alloc_new]; rfl, hl.below hba, fun b off e hp => by have := hf b off e hp; omega⟩
/-- What is told of a drawn device. -/
def Sized (safe : ByteArray) (ls : List Ln) : Prop := safe.size ≤ 10000 ∧ ls.length ≤ 129 ∧ ∀ l ∈ ls, l.data.size ≤ 64 ∧ l.sent.size ≤ 64
set_option maxHeartbeats 4000000 in
theorem draw_flush (w : World) (a : Option Addr) (len cap : Nat) (hs : len ≤ 1048576) (hc : RdCode w w.heap.size a len) :
    Calls Try.prog 30 #[.slice a len cap] w fun e w' => ∃ (safe : ByteArray) (ls : List Ln) (aa : Option Addr) (cp : Nat) (n : Int), e = .returned (.tuple #[.agg #[.string safe, .slice aa ls.length cp], .int .i64 n]) ∧ (Lit.int .i64 n).wf = true ∧ Sized safe ls ∧ Lines w' aa ls ∧ (∀ b off, aa = some ⟨b, off, none⟩ → 0 < ls.length → w.heap.size < b) ∧ Below w.heap.size w w' := by
  obtain ⟨W, hW⟩ : ∃ W, W = w.alloc (.cells #[.string ⟨#[]⟩, .slice none 0 0] 26) := ⟨_, rfl⟩
  have HW : Hid (W = w.alloc (.cells #[.string ⟨#[]⟩, .slice none 0 0] 26)) := hW
  have hb0 : Below w.heap.size w W := by rw [hW]; exact (Below.refl _ _).alloc (Nat.le_refl _) _
  have HC : Hid (RdCode W W.heap.size a len) := hc.below hb0 hb0.size
  clear hW hc hb0
  go_enter Try.func30, Try.ntmps30
  go_wp2_with fail
  rw [← HW.out]
  refine (open_any W a len cap hs HC.out).mono ?_
  rintro e w1 ⟨rfl, hr1, hb1⟩
  have HR1 : Hid (Rd w1 W.heap.size a len cap) := hr1
  have HB1 : Hid (Below W.heap.size W w1) := hb1
  clear hr1 hb1
  go_wp2_with fail
  refine (device_any w1 _ a len cap HR1.out).mono ?_
  rintro e w2 ⟨safe, ls, aa, cp, rfl, z1, z2, z3, hl, hf, hr2, hg⟩
  obtain ⟨X, hX⟩ : ∃ X, X = w2.alloc (.cells #[.string safe, .slice aa ls.length cp] 26) := ⟨_, rfl⟩
  have HX : Hid (X = w2.alloc (.cells #[.string safe, .slice aa ls.length cp] 26)) := hX
  have HD : Hid (Dealt w X W.heap.size a len cap w.heap.size w2.heap.size safe aa cp ls) := by
    have h1 : Dealt w X W.heap.size a len cap w.heap.size w2.heap.size safe aa cp ls := by rw [hX]; exact .first HW.out rfl HB1.out HR1.out hl hf hr2 hg
    exact h1
  have HZ : Hid (Sized safe ls) := ⟨z1, z2, z3⟩
  have HF : Hid (∀ b off, aa = some ⟨b, off, none⟩ → 0 < ls.length → w.heap.size < b) := fun b off e hp => by
    have h1 := hf b off e hp
    have h2 := HB1.out.size
    have h3 : W.heap.size = w.heap.size + 1 := by rw [HW.out]; simp
    omega
  clear hX hl hf hr2 hg z2 z3
  have b0 := HD.out.box0
  have b1 := HD.out.box1
  go_wp2_with (rw [← HX.out])
  go_upto_region 3 with (rw [← HX.out])
  go_region_held3 (fun w' => w'.cell? ⟨w2.heap.size, 0, none⟩ = some (.string safe) ∧ w'.cell? ⟨w2.heap.size, 1, none⟩ = some (.slice aa ls.length cp))
    (first | exact ⟨HD.out.drew.box0, HD.out.drew.box1⟩ | exact ⟨HD3.out.box0, HD3.out.box1⟩ | exact ⟨HD4.out.box0, HD4.out.box1⟩ | exact HD4.out.boxes _ _)
    (first | (go_at_call 48; refine (l2Count_any _ safe _ (by omega)).mono ?_; rintro e w3 ⟨rfl, hb3⟩; have HD3 : Hid (Dealt w w3 W.heap.size a len cap w.heap.size w2.heap.size safe aa cp ls) := HD.out.drew.later hb3; clear hb3) | (go_at_call 34; refine (off_any _ _ a len cap HD3.out.rd 0 ((safe.size / 64 : Nat) : Int) (by omega) (by omega) (by omega)).mono ?_; rintro e w4 ⟨n, rfl, hn, hr4, hg4⟩; have HD4 : Hid (Dealt w w4 W.heap.size a len cap w.heap.size w2.heap.size safe aa cp ls) := HD3.out.drawn hr4 hg4; have HN : Hid ((Lit.int .i64 n).wf = true) := hn; have q0 := HD4.out.res0; have q1 := HD4.out.res1; have y0 := HD4.out.fres0; have y1 := HD4.out.fres1; clear hr4 hg4 hn))
  all_goals
    obtain ⟨p0, p1⟩ := set2_cells HD4.out.res0 HD4.out.res1 (.string safe) (.slice aa ls.length cp)
    have HE : Hid (_ ∧ _) := HD4.out.ends (.string safe) (.slice aa ls.length cp)
    go_wp2
    refine bodyPost_ret (v := .tuple #[.agg #[.string safe, .slice aa ls.length cp], .int .i64 n]) (by simp [results, Try.results30, go_sem, p0, p1]) rfl ?_
    exact ⟨safe, ls, aa, cp, n, rfl, HN.out, HZ.out, HE.out.1, HF.out, HE.out.2⟩
set_option maxHeartbeats 4000000 in
theorem draw_store (w : World) (a : Option Addr) (len cap : Nat) (hs : len ≤ 1048576) (hc : RdCode w w.heap.size a len) :
    Calls Try.prog 9 #[.slice a len cap] w fun e w' => ∃ (safe : ByteArray) (ls : List Ln) (aa : Option Addr) (cp : Nat) (n : Int) (t : ByteArray), e = .returned (.tuple #[.agg #[.string safe, .slice aa ls.length cp], .int .i64 n, .string t]) ∧ (Lit.int .i64 n).wf = true ∧ t.size ≤ 12 ∧ Sized safe ls ∧ Lines w' aa ls ∧ Below w.heap.size w w' := by
  obtain ⟨W, hW⟩ : ∃ W, W = w.alloc (.cells #[.string ⟨#[]⟩, .slice none 0 0] 26) := ⟨_, rfl⟩
  have HW : Hid (W = w.alloc (.cells #[.string ⟨#[]⟩, .slice none 0 0] 26)) := hW
  have hb0 : Below w.heap.size w W := by rw [hW]; exact (Below.refl _ _).alloc (Nat.le_refl _) _
  have HC : Hid (RdCode W W.heap.size a len) := hc.below hb0 hb0.size
  clear hW hc hb0
  go_enter Try.func9, Try.ntmps9
  go_wp2_with fail
  rw [← HW.out]
  refine (open_any W a len cap hs HC.out).mono ?_
  rintro e w1 ⟨rfl, hr1, hb1⟩
  have HR1 : Hid (Rd w1 W.heap.size a len cap) := hr1
  have HB1 : Hid (Below W.heap.size W w1) := hb1
  clear hr1 hb1
  go_wp2_with fail
  refine (device_any w1 _ a len cap HR1.out).mono ?_
  rintro e w2 ⟨safe, ls, aa, cp, rfl, z1, z2, z3, hl, hf, hr2, hg⟩
  obtain ⟨X, hX⟩ : ∃ X, X = w2.alloc (.cells #[.string safe, .slice aa ls.length cp] 26) := ⟨_, rfl⟩
  have HX : Hid (X = w2.alloc (.cells #[.string safe, .slice aa ls.length cp] 26)) := hX
  have HD : Hid (Dealt w X W.heap.size a len cap w.heap.size w2.heap.size safe aa cp ls) := by
    have h1 : Dealt w X W.heap.size a len cap w.heap.size w2.heap.size safe aa cp ls := by rw [hX]; exact .first HW.out rfl HB1.out HR1.out hl hf hr2 hg
    exact h1
  have HZ : Hid (Sized safe ls) := ⟨z1, z2, z3⟩
  clear hX hl hf hr2 hg z2 z3
  have b0 := HD.out.box0
  have b1 := HD.out.box1
  go_wp2_with (rw [← HX.out])
  go_upto_region 3 with (rw [← HX.out])
  go_region_held3 (fun w' => w'.cell? ⟨w2.heap.size, 0, none⟩ = some (.string safe) ∧ w'.cell? ⟨w2.heap.size, 1, none⟩ = some (.slice aa ls.length cp))
    (first | exact ⟨HD.out.drew.box0, HD.out.drew.box1⟩ | exact ⟨HD3.out.box0, HD3.out.box1⟩ | exact ⟨HD4.out.box0, HD4.out.box1⟩ | exact HD4.out.boxes _ _)
    (first | (go_at_call 34; refine (off_any _ _ a len cap HD.out.drew.rd 0 (safe.size : Int) (by omega) (by omega) (by omega)).mono ?_; rintro e w3 ⟨n, rfl, hn, hr3, hg3⟩; have HD3 : Hid (Dealt w w3 W.heap.size a len cap w.heap.size w2.heap.size safe aa cp ls) := HD.out.drew.drawn hr3 hg3; have HN : Hid ((Lit.int .i64 n).wf = true) := hn; clear hr3 hg3 hn) | (go_at_call 35; refine (bytes_any _ _ a len cap HD3.out.rd 12 (by omega) (by omega)).mono ?_; rintro e w4 ⟨t, rfl, ht, hr4, hg4⟩; have HD4 : Hid (Dealt w w4 W.heap.size a len cap w.heap.size w2.heap.size safe aa cp ls) := HD3.out.drawn hr4 hg4; have HTS : Hid ((t.size : Int) ≤ 12) := ht; have q0 := HD4.out.res0; have q1 := HD4.out.res1; have y0 := HD4.out.fres0; have y1 := HD4.out.fres1; clear hr4 hg4 ht))
  all_goals
    obtain ⟨p0, p1⟩ := set2_cells HD4.out.res0 HD4.out.res1 (.string safe) (.slice aa ls.length cp)
    have HE : Hid (_ ∧ _) := HD4.out.ends (.string safe) (.slice aa ls.length cp)
    go_wp2
    refine bodyPost_ret (v := .tuple #[.agg #[.string safe, .slice aa ls.length cp], .int .i64 n, .string t]) (by simp [results, Try.results9, go_sem, p0, p1]) rfl ?_
    exact ⟨safe, ls, aa, cp, n, t, rfl, HN.out, by have := HTS.out; omega, HZ.out, HE.out.1, HE.out.2⟩
theorem draw_evict (w : World) (a : Option Addr) (len cap : Nat) (hs : len ≤ 1048576) (hc : RdCode w w.heap.size a len) :
    Calls Try.prog 26 #[.slice a len cap] w fun e w' => ∃ (safe : ByteArray) (ls : List Ln) (aa : Option Addr) (cp : Nat) (n : Int), e = .returned (.tuple #[.agg #[.string safe, .slice aa ls.length cp], .int .i64 n]) ∧ (Lit.int .i64 n).wf = true ∧ Sized safe ls ∧ Lines w' aa ls ∧ Below w.heap.size w w' := by
  obtain ⟨W, hW⟩ : ∃ W, W = w.alloc (.cells #[.string ⟨#[]⟩, .slice none 0 0] 26) := ⟨_, rfl⟩
  have HW : Hid (W = w.alloc (.cells #[.string ⟨#[]⟩, .slice none 0 0] 26)) := hW
  have hb0 : Below w.heap.size w W := by rw [hW]; exact (Below.refl _ _).alloc (Nat.le_refl _) _
  have HC : Hid (RdCode W W.heap.size a len) := hc.below hb0 hb0.size
  have HB0 : Hid (Below w.heap.size w W) := hb0
  have hlt : w.heap.size < W.heap.size := by rw [hW]; simp
  have HK : Hid (∀ w', Below W.heap.size W w' → w'.cell? ⟨w.heap.size, 0, none⟩ = some (.string ⟨#[]⟩) ∧ w'.cell? ⟨w.heap.size, 1, none⟩ = some (.slice none 0 0) ∧ ∀ k, w'.frozen? ⟨w.heap.size, k, none⟩ = false) := fun w' h =>
    ⟨by rw [h.cell (p := ⟨w.heap.size, 0, none⟩) hlt, hW, World.cell?_alloc_new]; rfl, by rw [h.cell (p := ⟨w.heap.size, 1, none⟩) hlt, hW, World.cell?_alloc_new]; rfl, fun k => by rw [h.frozen (p := ⟨w.heap.size, k, none⟩) hlt, hW]; exact World.frozen?_alloc_new _ _ _ _⟩
  clear hW hc hb0
  go_enter Try.func26, Try.ntmps26
  go_wp2_with fail
  rw [← HW.out]
  refine (draw_flush W a len cap hs HC.out).mono ?_
  rintro e w1 ⟨safe, ls, aa, cp, n, rfl, hn, hz, hl, hf, hb1⟩
  obtain ⟨q0, q1, fr⟩ := HK.out w1 hb1
  have y0 := fr 0
  have y1 := fr 1
  obtain ⟨p0, p1⟩ := set2_cells q0 q1 (.string safe) (.slice aa ls.length cp)
  have HL : Hid (Lines _ aa ls) := lines_set2 (C := w.heap.size) hl (fun b off e hp => by have := hf b off e hp; omega) (.string safe) (.slice aa ls.length cp)
  have HB2 : Hid (Below w.heap.size w ((w1.setCell ⟨w.heap.size, 0, none⟩ (.string safe)).setCell ⟨w.heap.size, 1, none⟩ (.slice aa ls.length cp))) := ((HB0.out.trans (hb1.mono HB0.out.size)).setCell (p := ⟨w.heap.size, 0, none⟩) (Nat.le_refl _) _).setCell (p := ⟨w.heap.size, 1, none⟩) (Nat.le_refl _) _
  have HZ : Hid (Sized safe ls) := hz
  have HN : Hid ((Lit.int .i64 n).wf = true) := hn
  clear hz hn hl hf hb1 fr
  go_wp2
  refine bodyPost_ret (v := .tuple #[.agg #[.string safe, .slice aa ls.length cp], .int .i64 n]) (by simp [results, Try.results26, go_sem, p0, p1]) rfl ?_
  exact ⟨safe, ls, aa, cp, n, rfl, HN.out, HZ.out, HL.out, HB2.out⟩
end Go.Proofs.Ytgpmpijaggnocaa.dev
