/-
  What Crash returns, by the specification; nothing that was there is written.
-/
import Derived.Test.YtgpmpijaggnocaaCrash1
import Derived.Test.YtgpmpijaggnocaaDev5
import Derived.RegionTactic
import Derived.ChangeAlike
namespace Go.Proofs.Ytgpmpijaggnocaa.dev
open Go.RowKit
open bb later

theorem zip_at {ls : List Ln} {ks : List Int} {k : Nat} (h1 : k < ls.length) (h2 : k < ks.length) : ∃ h : k < (ls.zip ks).length, (ls.zip ks)[k] = (ls[k], ks[k]) :=
  ⟨by rw [List.length_zip]; omega, by simp⟩
set_option maxHeartbeats 4000000 in
theorem l2Crash_any (w : World) (safe : ByteArray) (a : Option Addr) (cap : Nat) (ls : List Ln) (kb : Option Addr) (kc : Nat) (ks : List Int) (hs : safe.size ≤ 1048576) (hn : ls.length ≤ 1048576) (_hkn : ks.length ≤ 1048576) (hl : Lines w a ls) (hks : Nums w kb ks) (hok : DevOk safe ls) :
    Calls Try.prog 52 #[.agg #[.string safe, .slice a ls.length cap], .slice kb ks.length kc] w fun e w' => e = .returned (.agg #[.string (crashStr safe ls ks), .slice none 0 0]) ∧ Below w.heap.size w w' := by
  have HOK : Hid (DevOk safe ls) := hok
  have HPL : Hid (∀ k, (crashL safe.data.toList ((ls.zip ks).take k)).length = safe.size) := crash_ok hok ks
  obtain ⟨W, hW⟩ : ∃ W, W = (w.alloc (.cells #[.string safe, .slice a ls.length cap] 26)).alloc (.cells #[.string ⟨#[]⟩, .slice none 0 0] 26) := ⟨_, rfl⟩
  have HB0 : Hid (Below w.heap.size w W) := by
    have h1 : Below w.heap.size w W := by rw [hW]; go_grown
    exact h1
  have hWs : W.heap.size = w.heap.size + 2 := by rw [hW]; simp
  have k1 : W.cell? ⟨w.heap.size, 1, none⟩ = some (.slice a ls.length cap) := by rw [hW, World.cell?_alloc_past _ _ _ (by simp), World.cell?_alloc_at _ _ _ _ rfl]; rfl
  have k2 : W.cell? ⟨w.heap.size + 1, 0, none⟩ = some (.string ⟨#[]⟩) := by rw [hW, World.cell?_alloc_at _ _ _ _ (by simp)]; rfl
  have k3 : W.cell? ⟨w.heap.size + 1, 1, none⟩ = some (.slice none 0 0) := by rw [hW, World.cell?_alloc_at _ _ _ _ (by simp)]; rfl
  have f2 : ∀ o, W.frozen? ⟨w.heap.size + 1, o, none⟩ = false := fun o => by rw [hW, World.frozen?_alloc_at _ _ _ _ (by simp)]
  have HK : Hid (∀ w', Below W.heap.size W w' → w'.cell? ⟨w.heap.size, 1, none⟩ = some (.slice a ls.length cap)) := fun w' h => by
    rw [h.cell (p := ⟨w.heap.size, 1, none⟩) (by show w.heap.size < _; omega)]; exact k1
  have HT : Hid (∀ w', Below W.heap.size W w' → w'.cell? ⟨w.heap.size + 1, 0, none⟩ = some (.string ⟨#[]⟩) ∧ w'.cell? ⟨w.heap.size + 1, 1, none⟩ = some (.slice none 0 0) ∧ w'.frozen? ⟨w.heap.size + 1, 0, none⟩ = false ∧ w'.frozen? ⟨w.heap.size + 1, 1, none⟩ = false) := fun w' h =>
    ⟨by rw [h.cell (p := ⟨w.heap.size + 1, 0, none⟩) (by show w.heap.size + 1 < _; omega)]; exact k2, by rw [h.cell (p := ⟨w.heap.size + 1, 1, none⟩) (by show w.heap.size + 1 < _; omega)]; exact k3,
     by rw [h.frozen (p := ⟨w.heap.size + 1, 0, none⟩) (by show w.heap.size + 1 < _; omega)]; exact f2 0, by rw [h.frozen (p := ⟨w.heap.size + 1, 1, none⟩) (by show w.heap.size + 1 < _; omega)]; exact f2 1⟩
  have HL : Hid (∀ w', Below W.heap.size W w' → Lines w' a ls) := fun w' h => (hl.below HB0.out).below h
  have HN : Hid (∀ w', Below W.heap.size W w' → Nums w' kb ks) := fun w' h => (hks.below HB0.out).below h
  have hrt := run_told safe W
  have htb := told_below W safe
  have hby := told_bytes W safe
  have hts := told_size W safe
  have hcp : safe.size ≤ capOf W safe := grownCap_ge _ _ _ _
  generalize told W safe = w3 at hrt htb hby hts
  generalize capOf W safe = cp at hrt hcp
  have HB3 : Hid (Below W.heap.size W w3) := htb
  have HBy : Hid (Bytes w3 W.heap.size safe.data.toList) := hby
  have hg3 : W.heap.size < w3.heap.size := by omega
  have hrt2 : (convert 9 22 (.string safe)).run Try.prog ((w.alloc (.cells #[.string safe, .slice a ls.length cap] 26)).alloc (.cells #[.string ⟨#[]⟩, .slice none 0 0] 26)) = .ok (.slice (some ⟨W.heap.size, 0, none⟩) safe.size cp) w3 := by rw [← hW]; exact hrt
  have HWS : Hid (W.heap.size = w.heap.size + 2) := hWs
  clear k1 k2 k3 f2 hW hl hks hok htb hby hts hrt hWs
  go_enter Try.func52, Try.ntmps52
  go_wp2
  clear hrt2
  go_loopw [6] (fun i wr => ∃ k : Nat, k ≤ ls.length ∧ k ≤ ks.length ∧ i = .int .i64 k ∧ Bytes wr W.heap.size (crashL safe.data.toList ((ls.zip ks).take k)) ∧ Below W.heap.size W wr ∧ W.heap.size < wr.heap.size) (fun i _ => ls.length - (intOf i).toNat)
  case atStart => exact ⟨0, Nat.zero_le _, Nat.zero_le _, rfl, by simpa [crashL] using HBy.out, HB3.out, hg3⟩
  case round =>
    obtain ⟨k, hk1, hk2, rfl, hbr, hb, hgr⟩ := hrel
    have HBr : Hid (Bytes wr W.heap.size (crashL safe.data.toList ((ls.zip ks).take k))) := hbr
    have HB : Hid (Below W.heap.size W wr) := hb
    have HBw : Hid (Below w.heap.size w wr) := HB0.out.trans (hb.mono HB0.out.size)
    clear hbr hb
    have hpl := HPL.out k
    have m1 := HK.out wr HB.out
    by_cases hin : k < ls.length ∧ k < ks.length
    · obtain ⟨hlt, hlk2⟩ := hin
      have hlk := HOK.out.2.2.2 k hlt
      obtain ⟨hzk, hze⟩ := zip_at hlt hlk2
      have hst := crashL_take safe.data.toList (ls.zip ks) k hzk
      rw [hze] at hst
      obtain ⟨bb, off, rfl, c0, c1, c2⟩ := HL.out wr HB.out k hlt
      obtain ⟨b2, o2, rfl, c3⟩ := HN.out wr HB.out k hlk2
      have hkz := kept_size hlk ks[k]
      generalize ls[k] = l at c0 c1 c2 hlk hst hkz
      generalize ks[k] = kv at c3 hst hkz
      obtain ⟨pl, dt, sn⟩ := l
      simp only at c0 c1 c2 hst
      obtain ⟨_, hp0, hp1, _, _⟩ := hlk
      simp only at hp0 hp1
      obtain ⟨p, rfl⟩ := Int.eq_ofNat_of_zero_le hp0
      rw [Int.toNat_natCast] at hst
      have h64 : 64 * p + 64 ≤ safe.size := by have := HOK.out.1; omega
      generalize crashL safe.data.toList ((ls.zip ks).take k) = cur at HBr hpl hst
      have HST : Hid (crashL safe.data.toList ((ls.zip ks).take (k + 1)) = putAt cur (64 * p) (keptT ⟨(p : Int), dt, sn⟩ kv).data.toList) := hst
      obtain ⟨X, hX⟩ : ∃ X, X = wr.alloc (.cells #[.int .i64 (p : Int), .string dt, .string sn] 46) := ⟨_, rfl⟩
      have HX : Hid (X = wr.alloc (.cells #[.int .i64 (p : Int), .string dt, .string sn] 46)) := hX
      have hBX : Below wr.heap.size wr X := by rw [hX]; exact (Below.refl _ _).alloc (Nat.le_refl _) _
      have HBX : Hid (Below W.heap.size W X) := HB.out.trans (hBX.mono HB.out.size)
      have HXB : Hid (Bytes X W.heap.size cur) := HBr.out.below hBX hgr
      have x0 : X.cell? ⟨wr.heap.size, 0, none⟩ = some (.int .i64 (p : Int)) := by rw [hX, World.cell?_alloc_new]; rfl
      have x1 : X.cell? ⟨wr.heap.size, 1, none⟩ = some (.string dt) := by rw [hX, World.cell?_alloc_new]; rfl
      have x2 : X.cell? ⟨wr.heap.size, 2, none⟩ = some (.string sn) := by rw [hX, World.cell?_alloc_new]; rfl
      have hXs : W.heap.size < X.heap.size := Nat.lt_of_lt_of_le hgr hBX.size
      have c3x : X.cell? ⟨b2, o2 + k, none⟩ = some (.int .i64 kv) := by rw [hBX.cell (p := ⟨b2, o2 + k, none⟩) (World.block_lt_of_cell? wr _ c3)]; exact c3
      have hw64 : IntKind.i64.wrap (64 * (p : Int)) = 64 * (p : Int) := by rw [IntKind.wrap_i64]; omega
      have hb1 : 64 * (p : Int) ≤ (safe.size : Int) := by omega
      have hcne : ¬ cp = 64 * p := by omega
      have hlti : (k : Int) < (ls.length : Int) := by omega
      have hlti2 : (k : Int) < (ks.length : Int) := by omega
      have d1 : decide ((k : Int) < (ls.length : Int)) = true := by simpa using hlt
      have d2 : decide ((k : Int) < (ks.length : Int)) = true := by simpa using hlk2
      clear hst hp0 hp1 hX hBX
      by_cases hk1' : kv = 1
      · subst hk1'
        have hkt : keptT ⟨(p : Int), dt, sn⟩ 1 = sn := rfl
        rw [hkt] at HST hkz
        have hdl : sn.data.toList.length ≤ 64 := by simpa using hkz
        have hcy := copy_run X.drew W.heap.size (64 * p) (safe.size - 64 * p) (cp - 64 * p) cur sn 3 HXB.out (by omega) (by omega)
        have HN6 : Hid (Bytes (X.drew.setCells W.heap.size (64 * p) (cellsOfText sn)) W.heap.size (putAt cur (64 * p) sn.data.toList)) := bytes_splice (w := X.drew) HXB.out _ _ (by omega)
        have HNB : Hid (Below W.heap.size W (X.drew.setCells W.heap.size (64 * p) (cellsOfText sn))) := below_cells HBX.out.drew (Nat.le_refl _) _ _
        have hns : W.heap.size < (X.drew.setCells W.heap.size (64 * p) (cellsOfText sn)).heap.size := by rw [size_cells]; exact hXs
        generalize X.drew.setCells W.heap.size (64 * p) (cellsOfText sn) = w6 at HN6 HNB hns hcy
        clear hdl hkz
        go_wp2_with (rw [← HX.out])
        go_region
        all_goals
          clear c0 c1 c2 m1 hcy x0 x1 x2
          go_wp2
          go_roundw
          case rel => exact ⟨k + 1, by omega, by omega, by go_num, by rw [HST.out]; exact HN6.out, HNB.out, hns⟩
          case measure => simp [intOf]; omega
      · by_cases hk2' : kv = 2
        · subst hk2'
          have hkt : keptT ⟨(p : Int), dt, sn⟩ 2 = dt := rfl
          rw [hkt] at HST hkz
          have hdl : dt.data.toList.length ≤ 64 := by simpa using hkz
          have hcy := copy_run X.drew W.heap.size (64 * p) (safe.size - 64 * p) (cp - 64 * p) cur dt 3 HXB.out (by omega) (by omega)
          have HN6 : Hid (Bytes (X.drew.setCells W.heap.size (64 * p) (cellsOfText dt)) W.heap.size (putAt cur (64 * p) dt.data.toList)) := bytes_splice (w := X.drew) HXB.out _ _ (by omega)
          have HNB : Hid (Below W.heap.size W (X.drew.setCells W.heap.size (64 * p) (cellsOfText dt))) := below_cells HBX.out.drew (Nat.le_refl _) _ _
          have hns : W.heap.size < (X.drew.setCells W.heap.size (64 * p) (cellsOfText dt)).heap.size := by rw [size_cells]; exact hXs
          generalize X.drew.setCells W.heap.size (64 * p) (cellsOfText dt) = w6 at HN6 HNB hns hcy
          clear hdl hkz
          go_wp2_with (rw [← HX.out])
          go_region
          all_goals
            clear c0 c1 c2 m1 hcy x0 x1 x2
            go_wp2
            go_roundw
            case rel => exact ⟨k + 1, by omega, by omega, by go_num, by rw [HST.out]; exact HN6.out, HNB.out, hns⟩
            case measure => simp [intOf]; omega
        · have hkt : keptT ⟨(p : Int), dt, sn⟩ kv = ⟨#[]⟩ := by unfold keptT; rw [if_neg hk2', if_neg hk1']
          rw [hkt] at HST
          have e1 : (kv == 1) = false := by simpa using hk1'
          have e2 : (kv == 2) = false := by simpa using hk2'
          clear hkz x0 x1 x2
          go_wp2_with (rw [← HX.out])
          go_roundw
          case rel => exact ⟨k + 1, by omega, by omega, by go_num, by rw [HST.out]; simpa [putAt_nil] using HXB.out, HBX.out, hXs⟩
          case measure => simp [intOf]; omega
    · have he : (ls.zip ks).take k = ls.zip ks := List.take_of_length_le (by rw [List.length_zip]; omega)
      rw [he] at HBr hpl
      have hcv := HBr.out.text cp
      rw [hpl] at hcv
      have HF : Hid (crashStr safe ls ks = ⟨(crashL safe.data.toList (ls.zip ks)).toArray⟩) := rfl
      generalize ByteArray.mk (crashL safe.data.toList (ls.zip ks)).toArray = st at hcv HF
      obtain ⟨t0, t1, y0, y1⟩ := HT.out wr HB.out
      have HE : Hid (∀ S V : Value, Below w.heap.size w ((wr.setCell ⟨w.heap.size + 1, 0, none⟩ S).setCell ⟨w.heap.size + 1, 1, none⟩ V)) := fun S V =>
        (HBw.out.setCell (p := ⟨w.heap.size + 1, 0, none⟩) (by show w.heap.size ≤ w.heap.size + 1; omega) _).setCell (p := ⟨w.heap.size + 1, 1, none⟩) (by show w.heap.size ≤ w.heap.size + 1; omega) _
      have hne2 : (⟨w.heap.size + 1, 0, none⟩ : Addr) ≠ ⟨w.heap.size + 1, 1, none⟩ := fun q => by have := congrArg Addr.off q; simp at this
      have q0 : ∀ S V : Value, ((wr.setCell ⟨w.heap.size + 1, 0, none⟩ S).setCell ⟨w.heap.size + 1, 1, none⟩ V).cell? ⟨w.heap.size + 1, 0, none⟩ = some S := fun S V => by
        rw [World.cell?_setCell_other _ _ _ _ (Ne.symm hne2)]
        exact World.cell?_setCell_same _ _ _ t0
      have q1 : ∀ S V : Value, ((wr.setCell ⟨w.heap.size + 1, 0, none⟩ S).setCell ⟨w.heap.size + 1, 1, none⟩ V).cell? ⟨w.heap.size + 1, 1, none⟩ = some V := fun S V =>
        World.cell?_setCell_same _ _ _ (by rw [World.cell?_setCell_other _ _ _ _ hne2]; exact t1)
      clear hne2
      by_cases hlt : k < ls.length
      · have hge : ¬ (k : Int) < (ks.length : Int) := by omega
        have d1 : decide ((k : Int) < (ls.length : Int)) = true := by simpa using hlt
        have d2 : decide ((k : Int) < (ks.length : Int)) = false := by simp; omega
        go_wp2
        refine bodyPost_ret (v := .agg #[.string st, .slice none 0 0]) (by simp [results, Try.results52, go_sem, q0, q1]) rfl ?_
        exact ⟨by rw [HF.out], HE.out _ _⟩
      · have d1 : decide ((k : Int) < (ls.length : Int)) = false := by simp; omega
        go_wp2
        refine bodyPost_ret (v := .agg #[.string st, .slice none 0 0]) (by simp [results, Try.results52, go_sem, q0, q1]) rfl ?_
        exact ⟨by rw [HF.out], HE.out _ _⟩
theorem spec_crash_no (w : World) (safe : ByteArray) (a : Option Addr) (cap : Nat) (ls : List Ln) (kv : Value) (hs : safe.size ≤ 1048576) (hn : ls.length ≤ 1048576) (hl : Lines w a ls) (hz : ∀ i (hi : i < ls.length), ls[i].data.size ≤ 1048576 ∧ ls[i].sent.size ≤ 1048576) (hbad : ¬ DevOk safe ls) :
    Calls Try.prog 25 #[.agg #[.string safe, .slice a ls.length cap], kv] w fun e w' => e = .returned (.agg #[.string ⟨#[]⟩, .slice none 0 0]) ∧ Below w.heap.size w w' := by
  have hb0 : Below w.heap.size w ((w.alloc (.cells #[.string safe, .slice a ls.length cap] 26)).alloc (.cells #[.string ⟨#[]⟩, .slice none 0 0] 26)) := by go_grown
  obtain ⟨W, hW⟩ : ∃ W, W = (w.alloc (.cells #[.string safe, .slice a ls.length cap] 26)).alloc (.cells #[.string ⟨#[]⟩, .slice none 0 0] 26) := ⟨_, rfl⟩
  have k2 : W.cell? ⟨w.heap.size + 1, 0, none⟩ = some (.string ⟨#[]⟩) := by rw [hW, World.cell?_alloc_at _ _ _ _ (by simp)]; rfl
  have k3 : W.cell? ⟨w.heap.size + 1, 1, none⟩ = some (.slice none 0 0) := by rw [hW, World.cell?_alloc_at _ _ _ _ (by simp)]; rfl
  have f2 : ∀ o, W.frozen? ⟨w.heap.size + 1, o, none⟩ = false := fun o => by rw [hW, World.frozen?_alloc_at _ _ _ _ (by simp)]
  have hWs : W.heap.size = w.heap.size + 2 := by rw [hW]; simp
  rw [← hW] at hb0
  have HC : Hid (Calls _ _ _ _ _) := spec_ok W safe a cap ls hs hn (hl.below hb0) hz
  have HW : Hid (W = (w.alloc (.cells #[.string safe, .slice a ls.length cap] 26)).alloc (.cells #[.string ⟨#[]⟩, .slice none 0 0] 26)) := hW
  have HB0 : Hid (Below w.heap.size w W) := hb0
  clear hl hz hW hb0
  go_enter Try.func25, Try.ntmps25
  go_wp2_with fail
  rw [← HW.out]
  refine HC.out.mono ?_
  rintro e w2 ⟨b, rfl, hb, hb2⟩
  have hf : b = false := by
    cases b
    · rfl
    · exact absurd (hb.1 rfl) hbad
  subst hf
  have t0 : w2.cell? ⟨w.heap.size + 1, 0, none⟩ = some (.string ⟨#[]⟩) := by rw [hb2.cell (p := ⟨w.heap.size + 1, 0, none⟩) (by show w.heap.size + 1 < _; omega)]; exact k2
  have t1 : w2.cell? ⟨w.heap.size + 1, 1, none⟩ = some (.slice none 0 0) := by rw [hb2.cell (p := ⟨w.heap.size + 1, 1, none⟩) (by show w.heap.size + 1 < _; omega)]; exact k3
  have y0 : w2.frozen? ⟨w.heap.size + 1, 0, none⟩ = false := by rw [hb2.frozen (p := ⟨w.heap.size + 1, 0, none⟩) (by show w.heap.size + 1 < _; omega)]; exact f2 0
  have y1 : w2.frozen? ⟨w.heap.size + 1, 1, none⟩ = false := by rw [hb2.frozen (p := ⟨w.heap.size + 1, 1, none⟩) (by show w.heap.size + 1 < _; omega)]; exact f2 1
  have HBw : Hid (Below w.heap.size w w2) := HB0.out.trans (hb2.mono HB0.out.size)
  have HE : Hid (∀ S V : Value, Below w.heap.size w ((w2.setCell ⟨w.heap.size + 1, 0, none⟩ S).setCell ⟨w.heap.size + 1, 1, none⟩ V)) := fun S V =>
    (HBw.out.setCell (p := ⟨w.heap.size + 1, 0, none⟩) (by show w.heap.size ≤ w.heap.size + 1; omega) _).setCell (p := ⟨w.heap.size + 1, 1, none⟩) (by show w.heap.size ≤ w.heap.size + 1; omega) _
  have hne2 : (⟨w.heap.size + 1, 0, none⟩ : Addr) ≠ ⟨w.heap.size + 1, 1, none⟩ := fun q => by have := congrArg Addr.off q; simp at this
  have q0 : ∀ S V : Value, ((w2.setCell ⟨w.heap.size + 1, 0, none⟩ S).setCell ⟨w.heap.size + 1, 1, none⟩ V).cell? ⟨w.heap.size + 1, 0, none⟩ = some S := fun S V => by
    rw [World.cell?_setCell_other _ _ _ _ (Ne.symm hne2)]
    exact World.cell?_setCell_same _ _ _ t0
  have q1 : ∀ S V : Value, ((w2.setCell ⟨w.heap.size + 1, 0, none⟩ S).setCell ⟨w.heap.size + 1, 1, none⟩ V).cell? ⟨w.heap.size + 1, 1, none⟩ = some V := fun S V =>
    World.cell?_setCell_same _ _ _ (by rw [World.cell?_setCell_other _ _ _ _ hne2]; exact t1)
  clear hb hb2 hne2 k2 k3 f2
  go_wp2
  refine bodyPost_ret (v := .agg #[.string ⟨#[]⟩, .slice none 0 0]) (by simp [results, Try.results25, go_sem, q0, q1]) rfl ?_
  exact ⟨rfl, HE.out _ _⟩
theorem spec_crash (w : World) (safe : ByteArray) (a : Option Addr) (cap : Nat) (ls : List Ln) (kb : Option Addr) (kc : Nat) (ks : List Int) (hs : safe.size ≤ 1048576) (hn : ls.length ≤ 1048576) (hkn : ks.length ≤ 1048576) (hl : Lines w a ls) (hks : Nums w kb ks) (hz : ∀ i (hi : i < ls.length), ls[i].data.size ≤ 1048576 ∧ ls[i].sent.size ≤ 1048576) (hok : DevOk safe ls) :
    Calls Try.prog 25 #[.agg #[.string safe, .slice a ls.length cap], .slice kb ks.length kc] w fun e w' => e = .returned (.agg #[.string (crashStr safe ls ks), .slice none 0 0]) ∧ Below w.heap.size w w' := by
  have hb0 : Below w.heap.size w ((w.alloc (.cells #[.string safe, .slice a ls.length cap] 26)).alloc (.cells #[.string ⟨#[]⟩, .slice none 0 0] 26)) := by go_grown
  obtain ⟨W, hW⟩ : ∃ W, W = (w.alloc (.cells #[.string safe, .slice a ls.length cap] 26)).alloc (.cells #[.string ⟨#[]⟩, .slice none 0 0] 26) := ⟨_, rfl⟩
  have k0 : W.cell? ⟨w.heap.size, 0, none⟩ = some (.string safe) := by rw [hW, World.cell?_alloc_past _ _ _ (by simp), World.cell?_alloc_at _ _ _ _ rfl]; rfl
  have k1 : W.cell? ⟨w.heap.size, 1, none⟩ = some (.slice a ls.length cap) := by rw [hW, World.cell?_alloc_past _ _ _ (by simp), World.cell?_alloc_at _ _ _ _ rfl]; rfl
  have k2 : W.cell? ⟨w.heap.size + 1, 0, none⟩ = some (.string ⟨#[]⟩) := by rw [hW, World.cell?_alloc_at _ _ _ _ (by simp)]; rfl
  have k3 : W.cell? ⟨w.heap.size + 1, 1, none⟩ = some (.slice none 0 0) := by rw [hW, World.cell?_alloc_at _ _ _ _ (by simp)]; rfl
  have f2 : ∀ o, W.frozen? ⟨w.heap.size + 1, o, none⟩ = false := fun o => by rw [hW, World.frozen?_alloc_at _ _ _ _ (by simp)]
  have hWs : W.heap.size = w.heap.size + 2 := by rw [hW]; simp
  rw [← hW] at hb0
  have HC : Hid (Calls _ _ _ _ _) := spec_ok W safe a cap ls hs hn (hl.below hb0) hz
  have HQ : Hid (∀ w', Below W.heap.size W w' → Calls _ _ _ w' _) := fun w' h => l2Crash_any w' safe a cap ls kb kc ks hs hn hkn ((hl.below hb0).below h) ((hks.below hb0).below h) hok
  have HOK : Hid (DevOk safe ls) := hok
  have HT : Hid (∀ w', Below W.heap.size W w' → w'.cell? ⟨w.heap.size + 1, 0, none⟩ = some (.string ⟨#[]⟩) ∧ w'.cell? ⟨w.heap.size + 1, 1, none⟩ = some (.slice none 0 0) ∧ w'.frozen? ⟨w.heap.size + 1, 0, none⟩ = false ∧ w'.frozen? ⟨w.heap.size + 1, 1, none⟩ = false) := fun w' h =>
    ⟨by rw [h.cell (p := ⟨w.heap.size + 1, 0, none⟩) (by show w.heap.size + 1 < _; omega)]; exact k2, by rw [h.cell (p := ⟨w.heap.size + 1, 1, none⟩) (by show w.heap.size + 1 < _; omega)]; exact k3,
     by rw [h.frozen (p := ⟨w.heap.size + 1, 0, none⟩) (by show w.heap.size + 1 < _; omega)]; exact f2 0, by rw [h.frozen (p := ⟨w.heap.size + 1, 1, none⟩) (by show w.heap.size + 1 < _; omega)]; exact f2 1⟩
  have HW : Hid (W = (w.alloc (.cells #[.string safe, .slice a ls.length cap] 26)).alloc (.cells #[.string ⟨#[]⟩, .slice none 0 0] 26)) := hW
  have HB0 : Hid (Below w.heap.size w W) := hb0
  generalize crashStr safe ls ks = st at HQ ⊢
  clear hl hz hks hW hb0 hok
  go_enter Try.func25, Try.ntmps25
  go_wp2_with fail
  rw [← HW.out]
  refine HC.out.mono ?_
  rintro e w2 ⟨b, rfl, hb, hb2⟩
  have hf : b = true := hb.2 HOK.out
  subst hf
  have m0 : w2.cell? ⟨w.heap.size, 0, none⟩ = some (.string safe) := by rw [hb2.cell (p := ⟨w.heap.size, 0, none⟩) (by show w.heap.size < _; omega)]; exact k0
  have m1 : w2.cell? ⟨w.heap.size, 1, none⟩ = some (.slice a ls.length cap) := by rw [hb2.cell (p := ⟨w.heap.size, 1, none⟩) (by show w.heap.size < _; omega)]; exact k1
  have HB2 : Hid (Below W.heap.size W w2) := hb2
  clear hb hb2 k0 k1 k2 k3 f2
  go_wp2_with fail
  refine (HQ.out _ HB2.out).mono ?_
  rintro e w3 ⟨rfl, hb3⟩
  have h3 := HB2.out.trans (hb3.mono HB2.out.size)
  obtain ⟨t0, t1, y0, y1⟩ := HT.out w3 h3
  have HBw : Hid (Below w.heap.size w w3) := HB0.out.trans (h3.mono HB0.out.size)
  have HE : Hid (∀ S V : Value, Below w.heap.size w ((w3.setCell ⟨w.heap.size + 1, 0, none⟩ S).setCell ⟨w.heap.size + 1, 1, none⟩ V)) := fun S V =>
    (HBw.out.setCell (p := ⟨w.heap.size + 1, 0, none⟩) (by show w.heap.size ≤ w.heap.size + 1; omega) _).setCell (p := ⟨w.heap.size + 1, 1, none⟩) (by show w.heap.size ≤ w.heap.size + 1; omega) _
  have hne2 : (⟨w.heap.size + 1, 0, none⟩ : Addr) ≠ ⟨w.heap.size + 1, 1, none⟩ := fun q => by have := congrArg Addr.off q; simp at this
  have q0 : ∀ S V : Value, ((w3.setCell ⟨w.heap.size + 1, 0, none⟩ S).setCell ⟨w.heap.size + 1, 1, none⟩ V).cell? ⟨w.heap.size + 1, 0, none⟩ = some S := fun S V => by
    rw [World.cell?_setCell_other _ _ _ _ (Ne.symm hne2)]
    exact World.cell?_setCell_same _ _ _ t0
  have q1 : ∀ S V : Value, ((w3.setCell ⟨w.heap.size + 1, 0, none⟩ S).setCell ⟨w.heap.size + 1, 1, none⟩ V).cell? ⟨w.heap.size + 1, 1, none⟩ = some V := fun S V =>
    World.cell?_setCell_same _ _ _ (by rw [World.cell?_setCell_other _ _ _ _ hne2]; exact t1)
  clear hb3 h3 hne2
  go_wp2
  refine bodyPost_ret (v := .agg #[.string st, .slice none 0 0]) (by simp [results, Try.results25, go_sem, q0, q1]) rfl ?_
  exact ⟨rfl, HE.out _ _⟩
end Go.Proofs.Ytgpmpijaggnocaa.dev
