/-
  Patched, by the program.
-/
import Derived.Test.YtjdlphebnhkghaaPtMath
import Derived.Test.YtjdlphebnhkghaaYwF
import Derived.Test.YtjdlphebnhkghaaPtRnd
namespace Go.Proofs.Ytjdlphebnhkghaa.pt
open Go.RowKit Go.Shelf
open wmath num ints ref yw wb bb
attribute [local go_sem] Oper.semAt_some

/-- Where a loop stands: the bytes, and all blocks ahead of it but these. -/
def Pi (X : World) (G : Nat) (s : ByteArray) (fr to : List Int) (pre : List (Wb s.size)) (W : World) : Prop :=
  Bytes W G (ptF s fr to pre) ∧ X.heap.size ≤ W.heap.size ∧ ∀ k, k < X.heap.size → k ≠ G → W.heap[k]? = X.heap[k]?
theorem Pi.own (X : World) (G : Nat) (s : ByteArray) (fr to : List Int) (hG : G < X.heap.size) : OwnFrom X.heap.size (Pi X G s fr to) := fun pre W W' row hs hg hr => by
  have hne : ∀ k, k < X.heap.size → row ≠ some k := fun k hk q => by have := (hr k q).1; omega
  have hbk : ∀ k, k < X.heap.size → W'.heap[k]? = W.heap[k]? := fun k hk => hg.block k (Nat.lt_of_lt_of_le hk hs.2.1) (fun q => hne k hk q.symm)
  refine ⟨fun j hj => ?_, Nat.le_trans hs.2.1 hg.size, fun k hk hkG => by rw [hbk k hk]; exact hs.2.2 k hk hkG⟩
  obtain ⟨h0, h1⟩ := hs.1 j hj
  exact ⟨by rw [World.cell?_of_block (a := ⟨G, j, none⟩) (hbk G hG)]; exact h0, by rw [World.frozen?_of_block (a := ⟨G, j, none⟩) (hbk G hG)]; exact h1⟩
theorem Pi.cell {X W : World} {G : Nat} {s : ByteArray} {fr to : List Int} {pre : List (Wb s.size)} (h : Pi X G s fr to pre W) (k : Nat) (hk : k < X.heap.size) (hG : k ≠ G) {v : Value} (hc : X.cell? ⟨k, 0, none⟩ = some v) : W.cell? ⟨k, 0, none⟩ = some v := by
  rw [World.cell?_of_block (a := ⟨k, 0, none⟩) (h.2.2 k hk hG)]; exact hc
theorem Pi.step {X W W' : World} {G : Nat} {s : ByteArray} {fr to : List Int} {pre : List (Wb s.size)} {x : Wb s.size} (h : Pi X G s fr to pre W) (hG : G < X.heap.size) (h64 : 64 ≤ s.size) (hb : Below W.heap.size W W') :
    Pi X G s fr to (pre ++ [x]) (W'.setCells G (8 * x.1.1.toNat) (cellsOfText (turned fr to x.1.2))) := by
  have hl := ptF_len s fr to (by omega) pre.length pre rfl
  refine ⟨?_, ?_, fun k hk hkG => ?_⟩
  · rw [ptF_snoc]
    exact bytes_splice (h.1.below hb (by have := h.2.1; omega)) _ _ (by rw [hl, turned_len]; exact wb_in (by omega) x)
  · rw [size_cells]; exact Nat.le_trans h.2.1 hb.size
  · rw [heap_sets _ _ hkG, hb.block k (by have := h.2.1; omega)]; exact h.2.2 k hk hkG
set_option maxRecDepth 100000 in
set_option maxHeartbeats 1000000 in
theorem impl_pt_yes (w : World) (s : ByteArray) (a : Option Addr) (cap : Nat) (xs : List Int) (b : Option Addr) (cb : Nat) (fr : List Int) (c : Option Addr) (cc : Nat) (to : List Int) (hs : s.size ≤ 1048576) (hn : xs.length ≤ 1048576) (hfn : fr.length ≤ 1048576) (htn : to.length ≤ 1048576) (hl : Nums w a xs) (hb : Nums w b fr) (hc : Nums w c to) (hv : ∀ x ∈ to, x < 9223372036854775808) (hyw : ywOk s xs = true) (hfw : fwdOkB fr to = true) :
    Calls Try.prog 9 #[.string s, .slice a xs.length cap, .slice b fr.length cb, .slice c to.length cc] w fun e w' => e = .returned (.tuple #[.string ⟨(ptL s fr to xs xs.length).toArray⟩, .bool true]) ∧ Below w.heap.size w w' := by
  have HR : ∀ w', Below w.heap.size w w' → Calls Try.prog 30 #[.string s, .slice a xs.length cap] w' fun e w'' => e = .returned (.bool true) ∧ Below w'.heap.size w' w'' := fun w' q => by
    have := remembers_any w' s a cap xs hs hn (hl.below q)
    rw [hyw] at this
    exact this
  have HF : ∀ w', Below w.heap.size w w' → Calls Try.prog 31 #[.slice b fr.length cb, .slice c to.length cc] w' fun e w'' => e = .returned (.bool true) ∧ Below w'.heap.size w' w'' := fun w' q => by
    have := fwdOk_any w' b c cb cc fr to htn (hc.below q) hv
    rw [hfw] at this
    exact this
  have hft : fr.length = to.length := by unfold fwdOkB at hfw; rw [Bool.and_eq_true] at hfw; have := hfw.1; simp at this; omega
  have HFT : Hid (fr.length = to.length) := hft
  have hBD := yw_bounds hyw
  have h64 := yw_img hyw
  obtain ⟨n, hnn⟩ : ∃ n, n = xs.length := ⟨_, rfl⟩
  have HNN : Hid (n = xs.length) := hnn
  rw [← hnn] at HR ⊢
  obtain ⟨n1, hn1⟩ : ∃ n, n = fr.length := ⟨_, rfl⟩
  have HN1 : Hid (n1 = fr.length) := hn1
  obtain ⟨n2, hn2⟩ : ∃ n, n = to.length := ⟨_, rfl⟩
  have HN2 : Hid (n2 = to.length) := hn2
  rw [← hn1, ← hn2] at HF ⊢
  obtain ⟨st, hst⟩ : ∃ st : ByteArray, st = ⟨(ptL s fr to xs n).toArray⟩ := ⟨_, rfl⟩
  have HST : Hid (st = ⟨(ptL s fr to xs n).toArray⟩) := hst
  rw [← hst]
  clear hnn hyw hfw hft hn1 hn2 hst
  refine (callsIn_wide (n := 5)).1 ?_
  refine callsIn_of_wp_marks Try.func9 rfl trivial ?_ rfl
  simp only [Try.ntmps9, List.size_toArray, List.length_cons, List.length_nil, Nat.reduceAdd, Nat.reduceSub, Array.replicate_succ, Array.replicate_zero, List.push_toArray, List.append_toArray, List.nil_append, List.cons_append]
  gi_wp2_with fail
  obtain ⟨X0, hX0⟩ : ∃ X, X = (w.alloc (.cells #[.slice b n1 cb] 22)).alloc (.cells #[.slice c n2 cc] 22) := ⟨_, rfl⟩
  rw [← hX0]
  have hb0 : Below w.heap.size w X0 := by rw [hX0]; exact ((Below.refl _ _).alloc (Nat.le_refl _) _).alloc (by simp) _
  have hs0 : X0.heap.size = w.heap.size + 2 := by rw [hX0]; simp
  have k6 : X0.cell? ⟨w.heap.size, 0, none⟩ = some (.slice b n1 cb) := by rw [hX0, World.cell?_alloc_past _ _ _ (by simp), World.cell?_alloc_at _ _ _ _ (by simp)]; rfl
  have k7 : X0.cell? ⟨w.heap.size + 1, 0, none⟩ = some (.slice c n2 cc) := by rw [hX0, World.cell?_alloc_at _ _ _ _ (by simp)]; rfl
  refine ⟨trivial, ?_⟩
  refine (callsIn_wide.2 (HR X0 hb0)).mono ?_
  rintro e w1 ⟨rfl, hb1⟩
  have hB1 : Below w.heap.size w w1 := hb0.trans (hb1.mono hb0.size)
  have hc6 : w1.cell? ⟨w.heap.size, 0, none⟩ = some (.slice b n1 cb) := by rw [hb1.cell (p := ⟨w.heap.size, 0, none⟩) (by show w.heap.size < _; omega)]; exact k6
  have hc7 : w1.cell? ⟨w.heap.size + 1, 0, none⟩ = some (.slice c n2 cc) := by rw [hb1.cell (p := ⟨w.heap.size + 1, 0, none⟩) (by show w.heap.size + 1 < _; omega)]; exact k7
  have hs1 : w.heap.size + 2 ≤ w1.heap.size := by have := hb1.size; omega
  clear hX0 hb0 hs0 k6 k7 HR hb1
  gi_wp2_with fail
  refine ⟨trivial, ?_⟩
  refine (callsIn_wide.2 (HF w1 hB1)).mono ?_
  rintro e w2 ⟨rfl, hb2⟩
  have hB2 : Below w.heap.size w w2 := hB1.trans (hb2.mono hB1.size)
  have ha6 : w2.cell? ⟨w.heap.size, 0, none⟩ = some (.slice b n1 cb) := by rw [hb2.cell (p := ⟨w.heap.size, 0, none⟩) (by show w.heap.size < _; omega)]; exact hc6
  have ha7 : w2.cell? ⟨w.heap.size + 1, 0, none⟩ = some (.slice c n2 cc) := by rw [hb2.cell (p := ⟨w.heap.size + 1, 0, none⟩) (by show w.heap.size + 1 < _; omega)]; exact hc7
  have hs2 : w.heap.size + 2 ≤ w2.heap.size := by have := hb2.size; omega
  have hrt := run_told s w2
  have htb := told_below w2 s
  have hby := told_bytes w2 s
  have hts := told_size w2 s
  have hcp : s.size ≤ capOf w2 s := grownCap_ge _ _ _ _
  generalize told w2 s = T at hrt htb hby hts
  generalize capOf w2 s = cp at hrt hcp
  clear HF hb2 hc6 hc7
  obtain ⟨G, hG⟩ : ∃ G, G = w2.heap.size := ⟨_, rfl⟩
  rw [← hG] at hrt hby hts
  have hBT : Below w.heap.size w T := hB2.trans (htb.mono hB2.size)
  have hwG : w.heap.size + 2 ≤ G := by omega
  have t6 : T.cell? ⟨w.heap.size, 0, none⟩ = some (.slice b n1 cb) := by rw [htb.cell (p := ⟨w.heap.size, 0, none⟩) (by show w.heap.size < _; omega)]; exact ha6
  have t7 : T.cell? ⟨w.heap.size + 1, 0, none⟩ = some (.slice c n2 cc) := by rw [htb.cell (p := ⟨w.heap.size + 1, 0, none⟩) (by show w.heap.size + 1 < _; omega)]; exact ha7
  clear htb ha6 ha7 hs2 hB2 hG
  gi_wp2_with fail
  obtain ⟨U, hU⟩ : ∃ U, U = T.alloc (.cells #[.slice (some ⟨G, 0, none⟩) s.size cp] 28) := ⟨_, rfl⟩
  rw [← hU]
  have hBU : Below T.heap.size T U := by rw [hU]; exact (Below.refl _ _).alloc (Nat.le_refl _) _
  have hsU : U.heap.size = G + 2 := by rw [hU]; simp; omega
  have u10 : U.cell? ⟨G + 1, 0, none⟩ = some (.slice (some ⟨G, 0, none⟩) s.size cp) := by rw [hU, show G + 1 = T.heap.size by omega, World.cell?_alloc_new]; rfl
  clear hU hrt
  refine ⟨trivial, ?_⟩
  refine (wordsOf_in _ _ _ _ _ _).mono ?_
  rintro e w3 ⟨rfl, hw3⟩
  gi_wp2_with fail
  obtain ⟨X, hX⟩ : ∃ X, X = (U.alloc (.cells #[.string s] 9)).alloc (.cells #[.slice a n cap] 22) := ⟨_, rfl⟩
  rw [← hX]
  have hBX : Below U.heap.size U X := by rw [hX]; exact ((Below.refl _ _).alloc (Nat.le_refl _) _).alloc (by simp) _
  have hsX : X.heap.size = G + 4 := by rw [hX]; simp; omega
  have hXi : X.cell? ⟨U.heap.size, 0, none⟩ = some (.string s) := by rw [hX, World.cell?_alloc_past _ _ _ (by simp), World.cell?_alloc_at _ _ _ _ (by simp)]; rfl
  have hXw : X.cell? ⟨U.heap.size + 1, 0, none⟩ = some (.slice a n cap) := by rw [hX, World.cell?_alloc_at _ _ _ _ (by simp)]; rfl
  have hTX : Below T.heap.size T X := hBU.trans (hBX.mono hBU.size)
  have hwX : Below w.heap.size w X := hBT.trans (hTX.mono hBT.size)
  have x6 : X.cell? ⟨w.heap.size, 0, none⟩ = some (.slice b n1 cb) := by rw [hTX.cell (p := ⟨w.heap.size, 0, none⟩) (by show w.heap.size < _; omega)]; exact t6
  have x7 : X.cell? ⟨w.heap.size + 1, 0, none⟩ = some (.slice c n2 cc) := by rw [hTX.cell (p := ⟨w.heap.size + 1, 0, none⟩) (by show w.heap.size + 1 < _; omega)]; exact t7
  have x10 : X.cell? ⟨G + 1, 0, none⟩ = some (.slice (some ⟨G, 0, none⟩) s.size cp) := by rw [hBX.cell (p := ⟨G + 1, 0, none⟩) (by show G + 1 < _; omega)]; exact u10
  have hbX : Bytes X G (ptF s fr to []) := hby.below hTX (by omega)
  clear hX hw3 hBU hBX hTX t6 t7 u10 hby hts hBT
  rw [hsU] at hXi hXw
  have hNN := HNN.out
  subst hNN
  refine wpIn_rangeFunc_ownG rfl (by omega) (gf := 60) (lb := #[.pointer (some ⟨G + 2 + 1, 0, none⟩), .pointer (some ⟨G + 2, 0, none⟩)]) rfl trivial (enters_of Try.func60 (by kernel_rfl) rfl)
    (words_stops _ (by omega) (G + 2 + 1) (G + 2) X.heap.size G a cap s xs hn hs hBD X hXw hXi (fun h0 b off e => by
      obtain ⟨b', off', e', hc⟩ := hl 0 h0
      rw [e] at e'; cases e'
      have := World.block_lt_of_cell? w _ hc
      have h3 : b < w.heap.size := this
      exact ⟨by omega, by omega⟩) ⟨by omega, by omega⟩ (hl.below hwX)) Kq.trans (Kq.put (Nat.le_refl _)) (Below.refl _ _) (fun _ => rfl)
    (fun pre W => Pi X G s fr to pre W ∧ Below w.heap.size w W)
    (fun _ _ _ => False)
    (OwnFrom.and (Pi.own X G s fr to (by omega)) (ownFrom_below (Nat.le_refl _) hwX.size))
    (fun _ _ _ _ _ hs _ _ => hs)
    ⟨⟨hbX, Nat.le_refl _, fun _ _ _ => rfl⟩, hwX⟩
    (fun x => { tmps := #[.string s, .slice a xs.length cap, .slice b n1 cb, .slice c n2 cc, undef, undef, .pointer (some ⟨w.heap.size, 0, none⟩), .pointer (some ⟨w.heap.size + 1, 0, none⟩), .string ⟨#[]⟩, .bool false, .pointer (some ⟨G + 1, 0, none⟩), .int .i64 x.1.1, .int .i64 x.1.2, .string s, .slice a xs.length cap, .bool true, .bool false, .bool false, .slice b n1 cb, .slice c n2 cc, .bool true, .bool false, .bool false, .string s, .slice (some ⟨G, 0, none⟩) s.size cp, .string s, .slice a xs.length cap, .func (.func 60) #[] #[.pointer (some ⟨G + 2 + 1, 0, none⟩), .pointer (some ⟨G + 2, 0, none⟩)], .int .i64 x.1.1, .int .i64 x.1.2, undef, undef, undef, undef, undef, undef, undef, undef, undef, undef, undef, undef], defers := [] }) ?assign ?body ?done ?stop
  case assign =>
    intro l x W K hK
    gi_wp2
    exact hK
  case body =>
    rintro l pre x W ⟨hPi, hB⟩ hlt
    have HPi : Hid (Pi X G s fr to pre W) := hPi
    have HB : Hid (Below w.heap.size w W) := hB
    have hW6 := hPi.cell w.heap.size (by omega) (by omega) x6
    have hW7 := hPi.cell (w.heap.size + 1) (by omega) (by omega) x7
    have hW10 := hPi.cell (G + 1) (by omega) (by omega) x10
    have HXW : Hid (X.heap.size ≤ W.heap.size) := hPi.2.1
    have HGX : Hid (G + 4 = X.heap.size) := hsX.symm
    have HST2 : Hid (∀ W', Below W.heap.size W W' → Pi X G s fr to (pre ++ [x]) (W'.setCells G (8 * x.1.1.toNat) (cellsOfText (turned fr to x.1.2)))) := fun W' h => hPi.step (by omega) h64 h
    have HFW : Hid (∀ w', Below W.heap.size W w' → Calls Try.prog 34 #[.int .i64 x.1.2, .slice b n1 cb, .slice c n2 cc] w' fun e w'' => e = .returned (.int .i64 (fwd fr to x.1.2)) ∧ w' = w'') := fun w' h => by
      have := impl_fwd w' b c cb cc fr to x.1.2 hfn HFT.out (hb.below (HB.out.trans (h.mono HB.out.size))) (hc.below (HB.out.trans (h.mono HB.out.size)))
      rw [← HN1.out, ← HN2.out] at this
      exact this
    have HWB : Hid (∀ w, Calls Try.prog 33 #[.int .i64 (fwd fr to x.1.2)] w fun e w' => e = .returned (.string (turned fr to x.1.2)) ∧ Below w.heap.size w w') := fun w => impl_word (fwd fr to x.1.2) w
    have hin := wb_in (by omega) x
    have hll := ptF_len s fr to (by omega) pre.length pre rfl
    have hbr := hPi.1
    have HTL : Hid ((turned fr to x.1.2).data.toList.length = 8) := turned_len fr to _
    obtain ⟨⟨q, v⟩, hv1, hq0, hq1⟩ := x
    dsimp only at HST2 HFW HWB HTL hin ⊢
    obtain ⟨p, rfl⟩ := Int.eq_ofNat_of_zero_le hq0
    rw [Int.toNat_natCast] at HST2 hin
    generalize ptF s fr to pre = cur at hll hbr
    generalize turned fr to v = tu at HST2 HWB HTL
    obtain ⟨fy, hfy⟩ : ∃ fy, fy = fwd fr to v := ⟨_, rfl⟩
    rw [← hfy] at HFW HWB
    obtain ⟨A, hA⟩ : ∃ A : Nat, A = 8 * p := ⟨_, rfl⟩
    have hw8 : IntKind.i64.wrap ((p : Int) * 8) = (A : Int) := by rw [IntKind.wrap_i64]; omega
    rw [← hA] at HST2
    have hAi : (A : Int) ≤ (s.size : Int) := by omega
    have hcne : ¬ cp = A := by omega
    have HCP : Hid (∀ w', Below W.heap.size W w' → (Builtin.copy_ #[28, 9] 3 #[.slice (some ⟨G, A, none⟩) (s.size - A) (cp - A), .string tu]).run Try.prog w' = .ok (goInt tu.size) (w'.setCells G A (cellsOfText tu))) := fun w' h =>
      copy_run w' G A (s.size - A) (cp - A) cur tu 3 (hbr.below h (by have := HXW.out; have := HGX.out; omega)) (by rw [HTL.out]; omega) (by rw [HTL.out]; omega)
    have HC3 : Hid (∀ w', Below W.heap.size W w' → w'.cell? ⟨w.heap.size, 0, none⟩ = some (.slice b n1 cb) ∧ w'.cell? ⟨w.heap.size + 1, 0, none⟩ = some (.slice c n2 cc) ∧ w'.cell? ⟨G + 1, 0, none⟩ = some (.slice (some ⟨G, 0, none⟩) s.size cp)) := fun w' h =>
      ⟨by rw [h.cell (p := ⟨w.heap.size, 0, none⟩) (World.block_lt_of_cell? W _ hW6)]; exact hW6, by rw [h.cell (p := ⟨w.heap.size + 1, 0, none⟩) (World.block_lt_of_cell? W _ hW7)]; exact hW7, by rw [h.cell (p := ⟨G + 1, 0, none⟩) (World.block_lt_of_cell? W _ hW10)]; exact hW10⟩
    have HWG : Hid (w.heap.size + 2 ≤ G) := hwG
    have HD : Hid (Below W.heap.size W W.drew) := (Below.refl _ _).drew
    obtain ⟨S, hS⟩ : ∃ S : World → Prop, S = fun w' => w'.cell? ⟨w.heap.size, 0, none⟩ = some (.slice b n1 cb) ∧ w'.cell? ⟨w.heap.size + 1, 0, none⟩ = some (.slice c n2 cc) ∧ w'.cell? ⟨G + 1, 0, none⟩ = some (.slice (some ⟨G, 0, none⟩) s.size cp) := ⟨_, rfl⟩
    have HS : Hid (∀ w', Below W.heap.size W w' → S w') := fun w' h => by rw [hS]; exact HC3.out w' h
    have HSC : Hid (∀ w', Below W.heap.size W w' → S (w'.setCells G A (cellsOfText tu))) := fun w' h => by
      rw [hS]
      have := HWG.out
      refine ⟨?_, ?_, ?_⟩
      · rw [cell_aside _ _ _ _ _ _ (show w.heap.size ≠ G by omega)]; exact (HC3.out w' h).1
      · rw [cell_aside _ _ _ _ _ _ (show w.heap.size + 1 ≠ G by omega)]; exact (HC3.out w' h).2.1
      · rw [cell_aside _ _ _ _ _ _ (show G + 1 ≠ G by omega)]; exact (HC3.out w' h).2.2
    have HL : Hid (∀ w', S w' → w'.cell? ⟨w.heap.size, 0, none⟩ = some (.slice b n1 cb) ∧ w'.cell? ⟨w.heap.size + 1, 0, none⟩ = some (.slice c n2 cc) ∧ w'.cell? ⟨G + 1, 0, none⟩ = some (.slice (some ⟨G, 0, none⟩) s.size cp)) := fun w' h => by rw [hS] at h; exact h
    clear hPi hB hbr hll hin hA hfy hsX hsU hXi hXw x6 x7 x10 hbX hlt hwG hwX hW6 hW7 hW10 hS
    gi_wp2_with fail
    refine wpInR_held (S := S) (by kernel_rfl) (no_defers (by kernel_rfl)) (fun ⟨_, _, h⟩ => h) ?_
    have hH := HS.out _ HD.out
    refine wpAnyH_take (i := 1) rfl (by kernel_rfl) (by kernel_rfl) (by kernel_rfl) (fun _ _ _ h => h) (v := .int .i64 (p : Int)) (Or.inl ⟨by rfl, fun w _ => by go_simp⟩) hH ?_
    refine wpAnyH_take (i := 2) rfl (by kernel_rfl) (by kernel_rfl) (by kernel_rfl) (fun _ _ _ h => h) (v := .int .i64 (A : Int)) (Or.inl ⟨by rfl, fun w _ => by go_simp⟩) hH ?_
    refine wpAnyH_take (i := 4) rfl (by kernel_rfl) (by kernel_rfl) (by kernel_rfl) (fun _ _ _ h => h) (v := .int .i64 v) (Or.inl ⟨by rfl, fun w _ => by go_simp⟩) hH ?_
    refine wpAnyH_take (i := 0) rfl (by kernel_rfl) (by kernel_rfl) (by kernel_rfl) (fun _ _ _ h => h) (v := .slice (some ⟨G, 0, none⟩) s.size cp) (Or.inl ⟨by rfl, fun w hw => by obtain ⟨h1, h2, h3⟩ := HL.out w hw; go_simp⟩) hH ?_
    refine wpAnyH_take (i := 5) rfl (by kernel_rfl) (by kernel_rfl) (by kernel_rfl) (fun _ _ _ h => h) (v := .slice b n1 cb) (Or.inl ⟨by rfl, fun w hw => by obtain ⟨h1, h2, h3⟩ := HL.out w hw; go_simp⟩) hH ?_
    refine wpAnyH_take (i := 6) rfl (by kernel_rfl) (by kernel_rfl) (by kernel_rfl) (fun _ _ _ h => h) (v := .slice c n2 cc) (Or.inl ⟨by rfl, fun w hw => by obtain ⟨h1, h2, h3⟩ := HL.out w hw; go_simp⟩) hH ?_
    refine wpAnyH_take (i := 3) rfl (by kernel_rfl) (by kernel_rfl) (by kernel_rfl) (fun _ _ _ h => h) (v := .slice (some ⟨G, A, none⟩) (s.size - A) (cp - A)) (Or.inl ⟨by rfl, fun w _ => by go_simp⟩) hH ?_
    refine wpAnyH_ready (rs := [7]) (by kernel_rfl) (by simp) ?_
    refine AllReadyH.cons rfl (fun K hK => ?_) AllReadyH.nil
    rw [if_pos (by rfl)]
    go_simp
    refine (HFW.out _ HD.out).mono ?_
    rintro e w5 ⟨rfl, hw5⟩
    subst hw5
    refine hK.out _ _ hH (fun hH2 => ?_)
    clear hK K hH2
    refine wpAnyH_ready (rs := [8]) (by kernel_rfl) (by simp) ?_
    refine AllReadyH.cons rfl (fun K hK => ?_) AllReadyH.nil
    rw [if_pos (by rfl)]
    go_simp
    refine (HWB.out _).mono ?_
    rintro e w6 ⟨rfl, hb6⟩
    have HAC : Hid (Below W.heap.size W w6) := HD.out.trans (hb6.mono HD.out.size)
    have hcy := HCP.out _ HAC.out
    refine hK.out _ _ (HS.out _ HAC.out) (fun hH2 => ?_)
    clear hK K hH2 hb6
    refine wpAnyH_ready (rs := [9]) (by kernel_rfl) (by simp) ?_
    refine AllReadyH.cons rfl (fun K hK => ?_) AllReadyH.nil
    rw [if_pos (by rfl)]
    go_simp
    refine hK.out _ _ (HSC.out _ HAC.out) (fun hH2 => ?_)
    clear hK K hH2
    refine wpAnyH_done (by kernel_rfl) ?_ _
    have hko : KeepsFrom X.heap.size W (w6.setCells G A (cellsOfText tu)) := (KeepsFrom.of_grownBy (grown_below none HAC.out) (fun j q => by cases q)).trans (KeepsFrom.of_grownBy (grown_cells G _ _ _) (fun j q => by injection q with q; have := HGX.out; omega))
    have hkq : Kq X.heap.size G W (w6.setCells G A (cellsOfText tu)) := fun k hk hkG => by rw [heap_sets _ _ hkG]; exact HAC.out.block k (by have := HXW.out; omega)
    have hbe : Below w.heap.size w (w6.setCells G A (cellsOfText tu)) := below_cells (HB.out.trans (HAC.out.mono HB.out.size)) (by have := HWG.out; omega) _ _
    have hst2 := HST2.out _ HAC.out
    exact ⟨hko, hkq, hst2, hbe⟩
  case done =>
    rintro D ys W hD rfl ⟨hPi, hB⟩ hK
    have hW10 := hPi.cell (G + 1) (by omega) (by omega) x10
    have htx := hPi.1.text cp
    rw [ptF_len s fr to (by omega) _ _ rfl, ptF_upto s fr to xs xs.length hBD, ← HST.out] at htx
    gi_wp2
    refine ⟨by simp, .inl ⟨_, _, rfl, run_takeDeferred hK, ?_⟩⟩
    have hbe := hB.trans (belowK_b (w := w) (Nat.le_refl _) W D _ (.deferred none) (by have := hwX.size; omega) hK rfl rfl)
    refine ⟨.tuple #[.string st, .bool true], ?_, rfl, hbe⟩
    simp [results, Try.results9, go_sem]
  case stop =>
    rintro D c pre W _ _ h _
    exact h.elim
end Go.Proofs.Ytjdlphebnhkghaa.pt
