/-
  Images that are opened, by the program: what is opened, whether lines are of data, and references of such lines; RootsOf, by the program.
-/
import Derived.Test.YthmohmfkgoipkaaOlds2
namespace Go.Proofs.Ythmohmfkgoipkaa.img
open Go.RowKit
open kinds ints wmath num obj ref later

def confV (n1 n2 n3 : Int) (a : Option Addr) (n cap : Nat) : Value := .agg #[.int .i64 n1, .int .i64 n2, .int .i64 n3, .slice a n cap]
/-- The cells of an opened image in a block of its own. -/
structure Box6 (b : Nat) (n1 n2 n3 : Int) (v s f : Value) (w : World) : Prop where
  c0 : w.cell? ⟨b, 0, none⟩ = some (.int .i64 n1)
  c1 : w.cell? ⟨b, 1, none⟩ = some (.int .i64 n2)
  c2 : w.cell? ⟨b, 2, none⟩ = some (.int .i64 n3)
  c3 : w.cell? ⟨b, 3, none⟩ = some v
  c4 : w.cell? ⟨b, 4, none⟩ = some s
  c5 : w.cell? ⟨b, 5, none⟩ = some f
theorem Box6.below {b : Nat} {n1 n2 n3 : Int} {v s f : Value} {w w' : World} (h : Box6 b n1 n2 n3 v s f w) (hb : Below w.heap.size w w') : Box6 b n1 n2 n3 v s f w' :=
  have hl : b < w.heap.size := World.block_lt_of_cell? w _ h.c0
  ⟨by rw [hb.cell (p := ⟨b, 0, none⟩) hl]; exact h.c0, by rw [hb.cell (p := ⟨b, 1, none⟩) hl]; exact h.c1, by rw [hb.cell (p := ⟨b, 2, none⟩) hl]; exact h.c2, by rw [hb.cell (p := ⟨b, 3, none⟩) hl]; exact h.c3, by rw [hb.cell (p := ⟨b, 4, none⟩) hl]; exact h.c4, by rw [hb.cell (p := ⟨b, 5, none⟩) hl]; exact h.c5⟩
theorem Box6.start (w : World) (n1 n2 n3 : Int) (v s f : Value) (T : TypeId) : Box6 w.heap.size n1 n2 n3 v s f (w.alloc (.cells #[.int .i64 n1, .int .i64 n2, .int .i64 n3, v, s, f] T)) :=
  ⟨by rw [World.cell?_alloc_new]; rfl, by rw [World.cell?_alloc_new]; rfl, by rw [World.cell?_alloc_new]; rfl, by rw [World.cell?_alloc_new]; rfl, by rw [World.cell?_alloc_new]; rfl, by rw [World.cell?_alloc_new]; rfl⟩
theorem isData_any (w : World) (n1 n2 n3 f l : Int) (a : Option Addr) (n cap : Nat) (s : ByteArray) (h1 : 8 ≤ n1) (h2 : n1 ≤ 128) :
    Calls Try.prog 41 #[.agg #[.int .i64 n1, .int .i64 n2, .int .i64 n3, .slice a n cap, .string s, .int .i64 f], .int .i64 l] w fun e w' => e = .returned (.bool (decide (f ≤ l) && decide (l ≤ n1 - 1))) ∧ Below w.heap.size w w' := by
  have HC : Hid (∀ w, Calls _ _ _ w _) := fun w => within_any w l f (n1 - 1)
  generalize (decide (f ≤ l) && decide (l ≤ n1 - 1)) = r at HC ⊢
  have hw2 : IntKind.i64.wrap (n1 - 1) = n1 - 1 := by rw [IntKind.wrap_i64]; omega
  go_enter Try.func41, Try.ntmps41
  go_wp2_with fail
  refine (HC.out _).mono ?_
  rintro e w1 ⟨rfl, hw⟩
  subst hw
  go_wp2
  go_ret
  exact ⟨rfl, by go_grown⟩
set_option maxHeartbeats 1000000 in
set_option maxRecDepth 20000 in
theorem allNamed_any (w : World) (n1 n2 n3 : Int) (a : Option Addr) (n cap : Nat) (s : ByteArray) (b : Option Addr) (cb : Nat) (rs : List Int) (h1 : 8 ≤ n1) (h2 : n1 ≤ 128) (hn : rs.length ≤ 1048576) (hl : Nums w b rs) (hr : ∀ x ∈ rs, x < 9223372036854775808) :
    Calls Try.prog 26 #[.agg #[.int .i64 n1, .int .i64 n2, .int .i64 n3, .slice a n cap, .string s, .int .i64 (4 + n2)], .slice b rs.length cb] w fun e w' => e = .returned (.bool (allOld n1 n2 rs rs.length)) ∧ Below w.heap.size w w' := by
  obtain ⟨f, hf⟩ : ∃ f, f = 4 + n2 := ⟨_, rfl⟩
  rw [← hf]
  obtain ⟨W, hW⟩ : ∃ W, W = w.alloc (.cells #[.int .i64 n1, .int .i64 n2, .int .i64 n3, .slice a n cap, .string s, .int .i64 f] 49) := ⟨_, rfl⟩
  have hb0 : Below w.heap.size w W := by rw [hW]; exact (Below.refl _ _).alloc (Nat.le_refl _) _
  have hbx : Box6 w.heap.size n1 n2 n3 (.slice a n cap) (.string s) (.int .i64 f) W := by rw [hW]; exact Box6.start _ _ _ _ _ _ _ _
  have HK : Hid (∀ w', Below W.heap.size W w' → Box6 w.heap.size n1 n2 n3 (.slice a n cap) (.string s) (.int .i64 f) w') := fun w' h => hbx.below h
  have HW : Hid (W = w.alloc (.cells #[.int .i64 n1, .int .i64 n2, .int .i64 n3, .slice a n cap, .string s, .int .i64 f] 49)) := hW
  have HN : Hid (∀ w', Below W.heap.size W w' → Nums w' b rs) := fun w' h => (hl.below hb0).below h
  have HEnd : Hid (∀ w', Below W.heap.size W w' → Below w.heap.size w w') := fun w' h => hb0.trans (h.mono hb0.size)
  have HTOP : Hid (∀ x ∈ rs, x < 9223372036854775808) := hr
  have HDA : Hid (∀ (w : World) (l : Int), Calls Try.prog 41 #[.agg #[.int .i64 n1, .int .i64 n2, .int .i64 n3, .slice a n cap, .string s, .int .i64 f], .int .i64 l] w fun e w' => e = .returned (.bool (dataB n1 n2 l)) ∧ Below w.heap.size w w') := fun w l => by
    have h := isData_any w n1 n2 n3 f l a n cap s h1 h2
    rw [hf] at h ⊢
    exact h
  obtain ⟨res, hres⟩ : ∃ r, r = allOld n1 n2 rs rs.length := ⟨_, rfl⟩
  rw [← hres]
  have HMS : Hid (res = allOld n1 n2 rs rs.length) := hres
  clear hres hl hW hb0 hbx h1 h2 hr hf
  go_enter Try.func26, Try.ntmps26
  go_wp2
  rw [← HW.out]
  go_loopw [9] (fun i wr => ∃ k : Nat, k ≤ rs.length ∧ i = .int .i64 (k : Int) ∧ allOld n1 n2 rs k = true ∧ Below W.heap.size W wr) (fun i _ => rs.length - (intOf i).toNat)
  case atStart => exact ⟨0, Nat.zero_le _, rfl, rfl, Below.refl _ _⟩
  case round =>
    obtain ⟨k, hk, rfl, hok, hb⟩ := hrel
    have HB : Hid (Below W.heap.size W wr) := hb
    have HOK : Hid (allOld n1 n2 rs k = true) := hok
    clear hb hok
    by_cases hlt : k < rs.length
    · have hlti : (k : Int) < (rs.length : Int) := by omega
      have hk0 : (0 : Int) ≤ (k : Int) := by omega
      obtain ⟨b2, off, rfl, c0⟩ := HN.out wr HB.out k hlt
      have hrt := HTOP.out _ (List.getElem_mem hlt)
      rw [getD_intI2 rs k hlt] at c0 hrt
      have HST : Hid (allOld n1 n2 rs (k + 1) = oldB n1 n2 (rs.getD k 0)) := by
        show allOld n1 n2 rs (k + 1) = _
        rw [allOld, HOK.out]; rfl
      have HLE : Hid (allOld n1 n2 rs (k + 1) = false → allOld n1 n2 rs rs.length = false) := allOld_le n1 n2 rs (k + 1) rs.length (by omega)
      generalize rs.getD k 0 = r at c0 HST hrt
      have HD : Hid (oldB n1 n2 r = if r = 0 then true else if refKind r = 1 then dataB n1 n2 (r / 2) else false) := rfl
      have hpl : refKind r = 1 → placeOf r = r / 2 := fun h => by unfold placeOf; rw [h, if_neg (by decide)]
      have HRK : Hid (∀ (n : Later wr), _) := fun n => implRefKind r n.world hrt
      have HPL : Hid (∀ (n : Later wr), _) := fun n => implPlaceOf r n.world hrt
      have HDL : Hid (∀ (n : Later wr), _) := fun n => HDA.out n.world (placeOf r)
      have HPE : Hid (refKind r = 1 → placeOf r = r / 2) := hpl
      have hbx := HK.out wr HB.out
      have X0 := fun n : Later wr => Later.cell hbx.c0 n
      have X1 := fun n : Later wr => Later.cell hbx.c1 n
      have X2 := fun n : Later wr => Later.cell hbx.c2 n
      have X3 := fun n : Later wr => Later.cell hbx.c3 n
      have X4 := fun n : Later wr => Later.cell hbx.c4 n
      have X5 := fun n : Later wr => Later.cell hbx.c5 n
      have hne := some_later wr
      generalize oldB n1 n2 r = ob at HD HST
      generalize refKind r = kd at HD HRK HPE
      generalize placeOf r = pl at HPL HDL HPE
      clear hbx hpl hrt
      by_cases hr0 : r = 0
      · have he : (r != 0) = false := by simpa using hr0
        have HOK2 : Hid (allOld n1 n2 rs (k + 1) = true) := by show allOld n1 n2 rs (k + 1) = true; rw [HST.out, HD.out, if_pos hr0]
        clear hr0 HD
        go_wp2
        refine region_later (by kernel_rfl) (by kernel_rfl) ?_
        repeat (go_big_quiet_step (fail))
        refine wpQuiet_nil ?_
        intro w' hw'
        obtain ⟨nn, rfl⟩ := hw'
        have HB4 : Hid (Below W.heap.size W nn.world) := HB.out.trans (nn.below.mono HB.out.size)
        generalize nn.world = w4 at HB4 ⊢
        clear X0 X1 X2 X3 X4 X5 c0
        go_wp2
        go_roundw
        case rel => exact ⟨k + 1, by omega, by go_num, HOK2.out, HB4.out⟩
        case measure => simp [intOf]; omega
      · have he : (r != 0) = true := by simpa using hr0
        by_cases hkd : kd = 1
        · have hke : (kd != 1) = false := by simpa using hkd
          have HP2 : Hid (pl = r / 2) := HPE.out hkd
          have HST2 : Hid (allOld n1 n2 rs (k + 1) = dataB n1 n2 pl) := by show allOld n1 n2 rs (k + 1) = _; rw [HST.out, HD.out, if_neg hr0, if_pos hkd, HP2.out]
          clear hr0 HD hkd HPE HST HP2
          generalize hdd : dataB n1 n2 pl = dd at HST2 HDL
          clear hdd
          cases dd with
          | true =>
            go_wp2
            refine region_later (by kernel_rfl) (by kernel_rfl) ?_
            repeat (go_big_quiet_step (first | (go_at_call 40; exact later_of (HRK.out _)) | (go_at_call 42; exact later_of (HPL.out _)) | (go_at_call 41; exact later_of (HDL.out _))))
            refine wpQuiet_nil ?_
            intro w' hw'
            obtain ⟨nn, rfl⟩ := hw'
            have HB4 : Hid (Below W.heap.size W nn.world) := HB.out.trans (nn.below.mono HB.out.size)
            generalize nn.world = w4 at HB4 ⊢
            clear X0 X1 X2 X3 X4 X5 c0
            go_wp2
            go_roundw
            case rel => exact ⟨k + 1, by omega, by go_num, HST2.out, HB4.out⟩
            case measure => simp [intOf]; omega
          | false =>
            have HNO : Hid (res = false) := by show res = false; rw [HMS.out, HLE.out HST2.out]
            go_wp2
            refine region_later (by kernel_rfl) (by kernel_rfl) ?_
            repeat (go_big_quiet_step (first | (go_at_call 40; exact later_of (HRK.out _)) | (go_at_call 42; exact later_of (HPL.out _)) | (go_at_call 41; exact later_of (HDL.out _))))
            refine wpQuiet_nil ?_
            intro w' hw'
            obtain ⟨nn, rfl⟩ := hw'
            have HB4 : Hid (Below W.heap.size W nn.world) := HB.out.trans (nn.below.mono HB.out.size)
            generalize nn.world = w4 at HB4 ⊢
            clear X0 X1 X2 X3 X4 X5 c0
            go_wp2
            go_ret
            exact ⟨by rw [HNO.out]; rfl, HEnd.out _ HB4.out⟩
        · have hke : (kd != 1) = true := by simpa using hkd
          have HNO : Hid (res = false) := by show res = false; rw [HMS.out, HLE.out (by rw [HST.out, HD.out, if_neg hr0, if_neg hkd])]
          clear hr0 HD hkd HPE HST
          go_wp2
          refine region_later (by kernel_rfl) (by kernel_rfl) ?_
          repeat (go_big_quiet_step (first | (go_at_call 40; exact later_of (HRK.out _))))
          refine wpQuiet_nil ?_
          intro w' hw'
          obtain ⟨nn, rfl⟩ := hw'
          have HB4 : Hid (Below W.heap.size W nn.world) := HB.out.trans (nn.below.mono HB.out.size)
          generalize nn.world = w4 at HB4 ⊢
          clear X0 X1 X2 X3 X4 X5 c0
          go_wp2
          go_ret
          exact ⟨by rw [HNO.out]; rfl, HEnd.out _ HB4.out⟩
    · have hk2 : k = rs.length := by omega
      subst hk2
      have HRES : Hid (res = true) := by
        show res = true
        rw [HMS.out, HOK.out]
      go_wp2
      go_ret
      exact ⟨by rw [HRES.out]; rfl, HEnd.out _ HB.out⟩
end Go.Proofs.Ythmohmfkgoipkaa.img
