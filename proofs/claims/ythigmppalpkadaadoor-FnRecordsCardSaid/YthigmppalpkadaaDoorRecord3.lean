/-
  A record read from a line, by the program; nothing that was there is written.
-/
import Derived.Test.YthigmppalpkadaaDoorRecord2
import Derived.Deep.Cut
import Derived.Deep.CutRange
import Derived.Deep.DeepCutAuto
namespace Go.Proofs.YthigmppalpkadaaDoor.crc
open Go.RowKit
open wmath wb num

theorem shortAt_any (s : ByteArray) (p : Nat) (w : World) (hs : s.size ≤ 1048576) (hp : p + 2 ≤ s.size) :
    Calls Tryd.prog 52 #[.string s, .int .i64 (p : Int)] w fun e w' => e = .returned (.int .i64 (num (s.extract p (p + 2)).data.toList : Nat)) ∧ w' = w := by
  have hz : (s.extract p (p + 2)).size = 2 := by rw [ByteArray.size_extract]; omega
  have HN : Hid (∀ w, Calls _ _ _ w _) := fun w => numberOf_any (s.extract p (p + 2)) w (by omega)
  have hlt : num (s.extract p (p + 2)).data.toList < 65536 := by
    have := num_lt (s.extract p (p + 2)).data.toList
    have hl : ∀ t : ByteArray, t.data.toList.length = t.size := fun t => by simp
    have e : (s.extract p (p + 2)).data.toList.length = 2 := by rw [hl, hz]
    rw [e] at this
    simpa using this
  generalize num (s.extract p (p + 2)).data.toList = m at HN hlt
  have g1 : (p : Int) ≤ (p : Int) + 2 := by omega
  have g2 : (p : Int) + 2 ≤ (s.size : Int) := by omega
  have e1 : ((p : Int) + 2).toNat = p + 2 := by omega
  go_enter Tryd.func52, Tryd.ntmps52
  go_wp2_with fail
  refine (HN.out _).mono ?_
  rintro x w1 ⟨rfl, rfl⟩
  go_wp2
  go_ret
  exact ⟨rfl, rfl⟩
theorem recB_sealed {s : ByteArray} (h : recB s = true) (h64 : s.size = 64) : sealedB s = true := by
  unfold recB at h
  have h1 : (recStr (recEp s) (recSq s) (recHf s) (recOld s)).toList = s.toList := by simpa using h
  rw [toList_data, toList_data] at h1
  have h2 : recStr (recEp s) (recSq s) (recHf s) (recOld s) = s := bytes_of h1
  unfold recStr at h2
  split at h2
  · rename_i hr
    rw [← h2]; exact sealed_ok _ (by rw [recBody_size _ _ _ _ (recOk_in hr).2.2.2]; omega)
  · rw [← h2] at h64; cases h64
theorem impl_readrec_no (s : ByteArray) (w : World) (hs : s.size ≠ 64) :
    Calls Tryd.prog 24 #[.string s] w fun x w' => x = .returned (.tuple #[.agg #[.int .i64 0, .int .i64 0, .int .i64 0, .string ⟨#[]⟩], .bool false]) ∧ Below w.heap.size w w' := by
  have HU : Hid (∀ w, Calls _ _ _ w _) := fun w => impl_unsealed_no s w hs
  obtain ⟨W, hW⟩ : ∃ W, W = w.alloc (.cells #[.int .i64 0, .int .i64 0, .int .i64 0, .string ⟨#[]⟩] 35) := ⟨_, rfl⟩
  have HW : Hid (W = w.alloc (.cells #[.int .i64 0, .int .i64 0, .int .i64 0, .string ⟨#[]⟩] 35)) := hW
  have hb0 : Below w.heap.size w W := by rw [hW]; exact (Below.refl _ _).alloc (Nat.le_refl _) _
  have HB0 : Hid (Below w.heap.size w W) := hb0
  have hsz : w.heap.size < W.heap.size := by rw [hW]; simp
  have hc : ∀ k v, #[Value.int .i64 0, .int .i64 0, .int .i64 0, .string ⟨#[]⟩][k]? = some v → W.cell? ⟨w.heap.size, k, none⟩ = some v := fun k v h => by rw [hW, World.cell?_alloc_new]; exact h
  have hf : ∀ k, W.frozen? ⟨w.heap.size, k, none⟩ = false := fun k => by rw [hW]; exact World.frozen?_alloc_new _ _ _ _
  have HC : Hid (∀ w', Below W.heap.size W w' → (∀ k v, #[Value.int .i64 0, .int .i64 0, .int .i64 0, .string ⟨#[]⟩][k]? = some v → w'.cell? ⟨w.heap.size, k, none⟩ = some v) ∧ ∀ k, w'.frozen? ⟨w.heap.size, k, none⟩ = false) := fun w' hb =>
    ⟨fun k v h => by rw [hb.cell (p := ⟨w.heap.size, k, none⟩) hsz]; exact hc k v h, fun k => by rw [hb.frozen (p := ⟨w.heap.size, k, none⟩) hsz]; exact hf k⟩
  clear hb0 hW hc hf
  go_enter Tryd.func24, Tryd.ntmps24
  go_wp2_with fail
  rw [← HW.out]
  refine (HU.out _).mono ?_
  rintro x w2 ⟨rfl, hb1⟩
  have hb2 : Below W.heap.size W w2 := by first | exact hb1 | (subst hb1; exact Below.refl _ _)
  obtain ⟨hc, hf⟩ := HC.out _ hb2
  have v0 := hc 0 _ rfl
  have v1 := hc 1 _ rfl
  have v2 := hc 2 _ rfl
  have v3 := hc 3 _ rfl
  have z0 := hf 0
  have z1 := hf 1
  have z2 := hf 2
  have z3 := hf 3
  have HB2 : Hid (Below w.heap.size w w2) := HB0.out.trans (hb2.mono HB0.out.size)
  have HB3 : Hid (∀ x0 x1 x2 x3, Below w.heap.size w ((((w2.setCell ⟨w.heap.size, 0, none⟩ x0).setCell ⟨w.heap.size, 1, none⟩ x1).setCell ⟨w.heap.size, 2, none⟩ x2).setCell ⟨w.heap.size, 3, none⟩ x3)) := fun x0 x1 x2 x3 => (((HB2.out.setCell (p := ⟨w.heap.size, 0, none⟩) (Nat.le_refl _) x0).setCell (p := ⟨w.heap.size, 1, none⟩) (Nat.le_refl _) x1).setCell (p := ⟨w.heap.size, 2, none⟩) (Nat.le_refl _) x2).setCell (p := ⟨w.heap.size, 3, none⟩) (Nat.le_refl _) x3
  have HC4 : Hid (∀ x0 x1 x2 x3, _) := four_set v0 v1 v2 v3
  clear hc hf hb1 hb2
  go_wp2
  refine bodyPost_ret (v := .tuple #[.agg #[.int .i64 0, .int .i64 0, .int .i64 0, .string ⟨#[]⟩], .bool false]) ?_ rfl ⟨rfl, HB3.out _ _ _ _⟩
  obtain ⟨q0, q1, q2, q3⟩ := HC4.out (.int .i64 0) (.int .i64 0) (.int .i64 0) (.string ⟨#[]⟩)
  simp [results, Tryd.results24, go_sem, q0, q1, q2, q3]
set_option maxHeartbeats 2000000 in
theorem impl_readrec (s : ByteArray) (w : World) (hs : s.size = 64) (ht : TabAt w) (h0 : 0 < w.heap.size) :
    Calls Tryd.prog 24 #[.string s] w fun x w' => x = .returned (.tuple #[recVal (recB s) s, .bool (recB s)]) ∧ Below w.heap.size w w' := by
  obtain ⟨W, hW⟩ : ∃ W, W = w.alloc (.cells #[.int .i64 0, .int .i64 0, .int .i64 0, .string ⟨#[]⟩] 35) := ⟨_, rfl⟩
  have HW : Hid (W = w.alloc (.cells #[.int .i64 0, .int .i64 0, .int .i64 0, .string ⟨#[]⟩] 35)) := hW
  have hb0 : Below w.heap.size w W := by rw [hW]; exact (Below.refl _ _).alloc (Nat.le_refl _) _
  have HB0 : Hid (Below w.heap.size w W) := hb0
  have hsz : w.heap.size < W.heap.size := by rw [hW]; simp
  have hc : ∀ k v, #[Value.int .i64 0, .int .i64 0, .int .i64 0, .string ⟨#[]⟩][k]? = some v → W.cell? ⟨w.heap.size, k, none⟩ = some v := fun k v h => by rw [hW, World.cell?_alloc_new]; exact h
  have hf : ∀ k, W.frozen? ⟨w.heap.size, k, none⟩ = false := fun k => by rw [hW]; exact World.frozen?_alloc_new _ _ _ _
  have HC : Hid (∀ w', Below W.heap.size W w' → (∀ k v, #[Value.int .i64 0, .int .i64 0, .int .i64 0, .string ⟨#[]⟩][k]? = some v → w'.cell? ⟨w.heap.size, k, none⟩ = some v) ∧ ∀ k, w'.frozen? ⟨w.heap.size, k, none⟩ = false) := fun w' hb =>
    ⟨fun k v h => by rw [hb.cell (p := ⟨w.heap.size, k, none⟩) hsz]; exact hc k v h, fun k => by rw [hb.frozen (p := ⟨w.heap.size, k, none⟩) hsz]; exact hf k⟩
  have HT : Hid (∀ w', Below W.heap.size W w' → TabAt w' ∧ 0 < w'.heap.size) := fun w' hb => ⟨(ht.below hb0 h0).below hb (Nat.lt_of_lt_of_le h0 hb0.size), Nat.lt_of_lt_of_le h0 (Nat.le_trans hb0.size hb.size)⟩
  have HU : Hid (∀ w, TabAt w → Calls _ _ _ w _) := fun w h => impl_unsealed s w hs h
  have hsl := @recB_sealed s
  clear hb0 hW hc hf ht
  cases hsb : sealedB s with
  | false =>
    have hb : recB s = false := by
      cases h : recB s with
      | false => rfl
      | true => rw [hsl h hs] at hsb; cases hsb
    rw [hb]
    have HV2 : Hid (recVal false s = .agg #[.int .i64 0, .int .i64 0, .int .i64 0, .string ⟨#[]⟩]) := rfl
    rw [hsb] at HU
    clear hsl hb
    go_enter Tryd.func24, Tryd.ntmps24
    go_wp2_with fail
    rw [← HW.out]
    refine (HU.out _ (HT.out _ (Below.refl _ _)).1).mono ?_
    rintro x w2 ⟨rfl, hb2⟩
    obtain ⟨hc, hf⟩ := HC.out _ hb2
    have v0 := hc 0 _ rfl
    have v1 := hc 1 _ rfl
    have v2 := hc 2 _ rfl
    have v3 := hc 3 _ rfl
    have z0 := hf 0
    have z1 := hf 1
    have z2 := hf 2
    have z3 := hf 3
    have HB2 : Hid (Below w.heap.size w w2) := HB0.out.trans (hb2.mono HB0.out.size)
    have HB3 : Hid (∀ x0 x1 x2 x3, Below w.heap.size w ((((w2.setCell ⟨w.heap.size, 0, none⟩ x0).setCell ⟨w.heap.size, 1, none⟩ x1).setCell ⟨w.heap.size, 2, none⟩ x2).setCell ⟨w.heap.size, 3, none⟩ x3)) := fun x0 x1 x2 x3 => (((HB2.out.setCell (p := ⟨w.heap.size, 0, none⟩) (Nat.le_refl _) x0).setCell (p := ⟨w.heap.size, 1, none⟩) (Nat.le_refl _) x1).setCell (p := ⟨w.heap.size, 2, none⟩) (Nat.le_refl _) x2).setCell (p := ⟨w.heap.size, 3, none⟩) (Nat.le_refl _) x3
    have HC4 : Hid (∀ x0 x1 x2 x3, _) := four_set v0 v1 v2 v3
    clear hc hf hb2
    go_wp2
    refine bodyPost_ret (v := .tuple #[.agg #[.int .i64 0, .int .i64 0, .int .i64 0, .string ⟨#[]⟩], .bool false]) ?_ rfl ⟨by rw [HV2.out], HB3.out _ _ _ _⟩
    obtain ⟨q0, q1, q2, q3⟩ := HC4.out (.int .i64 0) (.int .i64 0) (.int .i64 0) (.string ⟨#[]⟩)
    simp [results, Tryd.results24, go_sem, q0, q1, q2, q3]
  | true =>
    have huo : unsealedOf s = s.extract 0 60 := by unfold unsealedOf; rw [if_pos hsb]
    rw [hsb, huo] at HU
    have hz : (s.extract 0 60).size = 60 := by rw [ByteArray.size_extract]; omega
    have x8 : (s.extract 0 60).extract 4 12 = s.extract 4 12 := by rw [ByteArray.extract_extract]; congr 1
    have x2 : (s.extract 0 60).extract 2 (2 + 2) = s.extract 2 4 := by rw [ByteArray.extract_extract]; congr 1
    have xo : (s.extract 0 60).extract 12 44 = s.extract 12 44 := by rw [ByteArray.extract_extract]; congr 1
    have hz8 : (s.extract 4 12).size = 8 := by rw [ByteArray.size_extract]; omega
    have hzo : (s.extract 12 44).size = 32 := by rw [ByteArray.size_extract]; omega
    have hN := fun w => numberOf_any ((s.extract 0 60).extract 4 12) w (by rw [x8]; omega)
    rw [x8] at hN
    have HN : Hid (∀ w, Calls _ _ _ w _) := hN
    have hA := fun w => shortAt_any (s.extract 0 60) 2 w (by omega) (by omega)
    rw [x2] at hA
    have HA : Hid (∀ w, Calls _ _ _ w _) := hA
    have h1 : 1 < (s.extract 0 60).size := by omega
    have hq : ((s.extract 0 60)[1]'h1).toNat = (s[1]'(by omega)).toNat := by
      congr 1
      simp [ByteArray.getElem_extract]
    have HQ : Hid (wrap64 (((s.extract 0 60)[1]'h1).toNat : Int) = recSq s) := by
      show _ = recSq s
      unfold recSq
      rw [dif_pos (show 1 < s.size by omega), hq]
      have := (s[1]'(by omega)).toNat_lt
      unfold wrap64
      omega
    have HR : Hid (∀ w, TabAt w → 0 < w.heap.size → Calls _ _ _ w _) := fun w q1 q2 => impl_record w (recEp s) (recSq s) (recHf s) (recOld s) (by unfold recOld; omega) q1 q2
    have HO : Hid (recOld s = s.extract 12 44) := rfl
    have HB : Hid (((recStr (recEp s) (recSq s) (recHf s) (recOld s)).toList == s.toList) = recB s) := rfl
    have HV : Hid (∀ b, recVal b s = if b = true then .agg #[.int .i64 (recEp s), .int .i64 (recSq s), .int .i64 (recHf s), .string (recOld s)] else .agg #[.int .i64 0, .int .i64 0, .int .i64 0, .string ⟨#[]⟩]) := fun _ => rfl
    have HEP : Hid (recEp s = wrap64 (num (s.extract 4 12).data.toList)) := rfl
    have HHF : Hid (recHf s = (num (s.extract 2 4).data.toList : Nat)) := rfl
    rw [HO.out] at HR HB HV
    rw [← HQ.out, HEP.out, HHF.out] at HR HB HV
    have hbd : (44 : Int) ≤ ((s.extract 0 60).size : Int) := by omega
    have hbd2 : (12 : Int) ≤ ((s.extract 0 60).size : Int) := by omega
    generalize num (s.extract 4 12).data.toList = m8 at HN HR HB HV
    generalize num (s.extract 2 4).data.toList = m2 at HA HR HB HV
    generalize hbo : s.extract 0 60 = body at *
    clear HQ HO HEP HHF hN hA huo hsl x2 hsb hq hbo
    generalize recStr _ _ _ (s.extract 12 44) = t at HR HB
    have e1 : (t.toList == s.toList) = recB s := HB.out
    clear HB
    obtain ⟨ep, hep⟩ : ∃ ep, ep = wrap64 (m8 : Int) := ⟨_, rfl⟩
    obtain ⟨sq, hsq⟩ : ∃ sq, sq = wrap64 ((body[1]'h1).toNat : Int) := ⟨_, rfl⟩
    rw [← hep, ← hsq] at HR HV
    have hw8 : IntKind.i64.wrap (m8 : Int) = ep := by rw [hep, IntKind.wrap_i64, wrap64]
    have hw1 : IntKind.i64.wrap ((body[1]'h1).toNat : Int) = sq := by rw [hsq, IntKind.wrap_i64, wrap64]
    have hv8 : wrap64 (m8 : Int) = ep := hep.symm
    have hv1 : wrap64 ((body[1]'h1).toNat : Int) = sq := hsq.symm
    clear hep hsq
    cases hb : recB s with
    | true =>
      rw [hb] at e1
      have hv := HV.out true
      rw [if_pos rfl] at hv
      have HV2 : Hid (recVal true s = _) := hv
      clear hv HV hb
      go_enter Tryd.func24, Tryd.ntmps24
      go_wp2_with fail
      rw [← HW.out]
      refine (HU.out _ (HT.out _ (Below.refl _ _)).1).mono ?_
      rintro x w2 ⟨rfl, hb2⟩
      have HB2 : Hid (Below W.heap.size W w2) := hb2
      clear hb2
      go_upto_region 4 with fail
      go_cut [6] (fun v wx => v = .pointer (some ⟨w2.heap.size, 0, none⟩) ∧ wx = (w2.alloc (.cells #[.int .i64 ep, .int .i64 sq, .int .i64 (m2 : Nat), .string (s.extract 12 44)] 35)).drew)
      case first =>
        go_region_held3 (fun _ => True) (trivial) (first | (go_at_call 54; refine (HN.out _).mono ?_; rintro x w3 ⟨rfl, rfl⟩) | (go_at_call 52; refine (HA.out _).mono ?_; rintro x w3 ⟨rfl, rfl⟩))
        all_goals
          go_wp2_with fail
          go_meet
          exact ⟨rfl, rfl⟩
      case rest =>
        obtain ⟨rfl, rfl⟩ := hcut
        obtain ⟨U, hU⟩ : ∃ U, U = (w2.alloc (.cells #[.int .i64 ep, .int .i64 sq, .int .i64 (m2 : Nat), .string (s.extract 12 44)] 35)).drew := ⟨_, rfl⟩
        have hUb : Below W.heap.size W U := by rw [hU]; exact (HB2.out.alloc HB2.out.size _).drew
        have hUs : w2.heap.size < U.heap.size := by rw [hU]; simp
        have hUc : ∀ k v, #[Value.int .i64 ep, .int .i64 sq, .int .i64 (m2 : Nat), .string (s.extract 12 44)][k]? = some v → U.cell? ⟨w2.heap.size, k, none⟩ = some v := fun k v h => by
          rw [hU]
          show (w2.alloc _).cell? _ = _
          rw [World.cell?_alloc_new]
          exact h
        have u0 := hUc 0 _ rfl
        have u1 := hUc 1 _ rfl
        have u2 := hUc 2 _ rfl
        have u3 := hUc 3 _ rfl
        rw [← hU]
        clear hU hUc
        have HUB : Hid (Below W.heap.size W U) := hUb
        clear hUb
        go_wp2_with fail
        refine (HR.out _ (HT.out _ HUB.out).1 (HT.out _ HUB.out).2).mono ?_
        rintro x w3 ⟨rfl, hb3⟩
        have hb4 : Below W.heap.size W w3 := HUB.out.trans (hb3.mono HUB.out.size)
        rw [← hb3.cell (p := ⟨w2.heap.size, _, none⟩) hUs] at u0 u1 u2 u3
        obtain ⟨hc, hf⟩ := HC.out _ hb4
        have v0 := hc 0 _ rfl
        have v1 := hc 1 _ rfl
        have v2 := hc 2 _ rfl
        have v3 := hc 3 _ rfl
        have z0 := hf 0
        have z1 := hf 1
        have z2 := hf 2
        have z3 := hf 3
        have HB5 : Hid (Below w.heap.size w w3) := HB0.out.trans (hb4.mono HB0.out.size)
        have HB3 : Hid (∀ x0 x1 x2 x3, Below w.heap.size w ((((w3.setCell ⟨w.heap.size, 0, none⟩ x0).setCell ⟨w.heap.size, 1, none⟩ x1).setCell ⟨w.heap.size, 2, none⟩ x2).setCell ⟨w.heap.size, 3, none⟩ x3)) := fun x0 x1 x2 x3 => (((HB5.out.setCell (p := ⟨w.heap.size, 0, none⟩) (Nat.le_refl _) x0).setCell (p := ⟨w.heap.size, 1, none⟩) (Nat.le_refl _) x1).setCell (p := ⟨w.heap.size, 2, none⟩) (Nat.le_refl _) x2).setCell (p := ⟨w.heap.size, 3, none⟩) (Nat.le_refl _) x3
        have HC4 : Hid (∀ x0 x1 x2 x3, _) := four_set v0 v1 v2 v3
        clear hc hf hb3 hb4 hUs
        go_wp2
        refine bodyPost_ret (v := .tuple #[.agg #[.int .i64 ep, .int .i64 sq, .int .i64 (m2 : Nat), .string (s.extract 12 44)], .bool true]) ?_ rfl ⟨by rw [HV2.out], HB3.out _ _ _ _⟩
        obtain ⟨q0, q1, q2, q3⟩ := HC4.out (.int .i64 ep) (.int .i64 sq) (.int .i64 (m2 : Nat)) (.string (s.extract 12 44))
        simp [results, Tryd.results24, go_sem, q0, q1, q2, q3]
    | false =>
      rw [hb] at e1
      have hv := HV.out false
      rw [if_neg (by decide)] at hv
      have HV2 : Hid (recVal false s = _) := hv
      clear hv HV hb
      go_enter Tryd.func24, Tryd.ntmps24
      go_wp2_with fail
      rw [← HW.out]
      refine (HU.out _ (HT.out _ (Below.refl _ _)).1).mono ?_
      rintro x w2 ⟨rfl, hb2⟩
      have HB2 : Hid (Below W.heap.size W w2) := hb2
      clear hb2
      go_upto_region 4 with fail
      go_cut [6] (fun v wx => v = .pointer (some ⟨w2.heap.size, 0, none⟩) ∧ wx = (w2.alloc (.cells #[.int .i64 ep, .int .i64 sq, .int .i64 (m2 : Nat), .string (s.extract 12 44)] 35)).drew)
      case first =>
        go_region_held3 (fun _ => True) (trivial) (first | (go_at_call 54; refine (HN.out _).mono ?_; rintro x w3 ⟨rfl, rfl⟩) | (go_at_call 52; refine (HA.out _).mono ?_; rintro x w3 ⟨rfl, rfl⟩))
        all_goals
          go_wp2_with fail
          go_meet
          exact ⟨rfl, rfl⟩
      case rest =>
        obtain ⟨rfl, rfl⟩ := hcut
        obtain ⟨U, hU⟩ : ∃ U, U = (w2.alloc (.cells #[.int .i64 ep, .int .i64 sq, .int .i64 (m2 : Nat), .string (s.extract 12 44)] 35)).drew := ⟨_, rfl⟩
        have hUb : Below W.heap.size W U := by rw [hU]; exact (HB2.out.alloc HB2.out.size _).drew
        have hUs : w2.heap.size < U.heap.size := by rw [hU]; simp
        have hUc : ∀ k v, #[Value.int .i64 ep, .int .i64 sq, .int .i64 (m2 : Nat), .string (s.extract 12 44)][k]? = some v → U.cell? ⟨w2.heap.size, k, none⟩ = some v := fun k v h => by
          rw [hU]
          show (w2.alloc _).cell? _ = _
          rw [World.cell?_alloc_new]
          exact h
        have u0 := hUc 0 _ rfl
        have u1 := hUc 1 _ rfl
        have u2 := hUc 2 _ rfl
        have u3 := hUc 3 _ rfl
        rw [← hU]
        clear hU hUc
        have HUB : Hid (Below W.heap.size W U) := hUb
        clear hUb
        go_wp2_with fail
        refine (HR.out _ (HT.out _ HUB.out).1 (HT.out _ HUB.out).2).mono ?_
        rintro x w3 ⟨rfl, hb3⟩
        have hb4 : Below W.heap.size W w3 := HUB.out.trans (hb3.mono HUB.out.size)
        rw [← hb3.cell (p := ⟨w2.heap.size, _, none⟩) hUs] at u0 u1 u2 u3
        obtain ⟨hc, hf⟩ := HC.out _ hb4
        have v0 := hc 0 _ rfl
        have v1 := hc 1 _ rfl
        have v2 := hc 2 _ rfl
        have v3 := hc 3 _ rfl
        have z0 := hf 0
        have z1 := hf 1
        have z2 := hf 2
        have z3 := hf 3
        have HB5 : Hid (Below w.heap.size w w3) := HB0.out.trans (hb4.mono HB0.out.size)
        have HB3 : Hid (∀ x0 x1 x2 x3, Below w.heap.size w ((((w3.setCell ⟨w.heap.size, 0, none⟩ x0).setCell ⟨w.heap.size, 1, none⟩ x1).setCell ⟨w.heap.size, 2, none⟩ x2).setCell ⟨w.heap.size, 3, none⟩ x3)) := fun x0 x1 x2 x3 => (((HB5.out.setCell (p := ⟨w.heap.size, 0, none⟩) (Nat.le_refl _) x0).setCell (p := ⟨w.heap.size, 1, none⟩) (Nat.le_refl _) x1).setCell (p := ⟨w.heap.size, 2, none⟩) (Nat.le_refl _) x2).setCell (p := ⟨w.heap.size, 3, none⟩) (Nat.le_refl _) x3
        have HC4 : Hid (∀ x0 x1 x2 x3, _) := four_set v0 v1 v2 v3
        clear hc hf hb3 hb4 hUs
        go_wp2
        refine bodyPost_ret (v := .tuple #[.agg #[.int .i64 0, .int .i64 0, .int .i64 0, .string ⟨#[]⟩], .bool false]) ?_ rfl ⟨by rw [HV2.out], HB3.out _ _ _ _⟩
        obtain ⟨q0, q1, q2, q3⟩ := HC4.out (.int .i64 0) (.int .i64 0) (.int .i64 0) (.string ⟨#[]⟩)
        simp [results, Tryd.results24, go_sem, q0, q1, q2, q3]
end Go.Proofs.YthigmppalpkadaaDoor.crc
