/-
  What AtRisk returns, by the specification and by the program: the places of the lines that are not as Safe has them, in new memory; nothing that was there is written.
-/
import Derived.Test.YtgpmpijaggnocaaDev5
import Derived.Test.YtgpmpijaggnocaaDev4
import Derived.Test.YtgpmpijaggnocaaMark
import Derived.Deep.AppendLies
import Derived.Outline
namespace Go.Proofs.Ytgpmpijaggnocaa.dev
open Go.RowKit
open later

/-- The line of a text at a place. -/
def safeAt (safe : ByteArray) (p : Nat) : ByteArray := safe.extract (64 * p) (64 * p + 64)
def risky (safe : ByteArray) (l : Ln) : Bool := !(l.data.toList == (safeAt safe l.place.toNat).toList)
def riskL (safe : ByteArray) (ls : List Ln) : List Int := (ls.filter (risky safe)).map Ln.place
theorem riskL_take (safe : ByteArray) (ls : List Ln) (k : Nat) (hk : k < ls.length) : riskL safe (ls.take (k + 1)) = riskL safe (ls.take k) ++ (if risky safe ls[k] = true then [ls[k].place] else []) := by
  unfold riskL
  rw [List.take_succ_eq_append_getElem hk, List.filter_append, List.map_append]
  congr 1
  by_cases h : risky safe ls[k] = true
  · simp [h]
  · simp [h]
theorem riskL_le (safe : ByteArray) (ls : List Ln) (k : Nat) : (riskL safe (ls.take k)).length ≤ ls.length := by
  unfold riskL
  rw [List.length_map]
  exact Nat.le_trans (List.length_filter_le _ _) (by simp; omega)

theorem infoInt : (Try.prog.info? 2).map (fun i => (i.zero, i.size, i.bytes)) = some (some (.int .i64 0), 1, 8) := by kernel_rfl
theorem grown_own {w w' : World} {B : Nat} {v : Value} (h : w.grownBy w' v.ownBlock) (hv : ∀ k, v.ownBlock = some k → B ≤ k) (hB : B ≤ w.heap.size) : Below B w w' :=
  ⟨h.os, h.tape, h.output, h.size, fun k hk => h.block k (by omega) (fun e => by have := hv k e.symm; omega)⟩
theorem lineOf_any (w : World) (safe : ByteArray) (p : Nat) (hs : safe.size ≤ 1048576) (h : 64 * p + 64 ≤ safe.size) :
    Calls Try.prog 63 #[.string safe, .int .i64 (p : Int)] w fun e w' => e = .returned (.string (safeAt safe p)) ∧ w = w' := by
  have h1 : 64 * (p : Int) + 64 ≤ (safe.size : Int) := by omega
  have HE : Hid (safeAt safe p = safe.extract (p * 64) ((p + 1) * 64)) := by show safeAt safe p = _; unfold safeAt; rw [Nat.mul_comm 64 p, show (p + 1) * 64 = p * 64 + 64 by omega]
  go_enter Try.func63, Try.ntmps63
  go_wp2
  go_ret
  rw [HE.out]
  exact ⟨rfl, rfl⟩
theorem safeLine_any (w : World) (safe : ByteArray) (v : Value) (p : Nat) (hs : safe.size ≤ 1048576) (h : 64 * p + 64 ≤ safe.size) :
    Calls Try.prog 39 #[.agg #[.string safe, v], .int .i64 (p : Int)] w fun e w' => e = .returned (.string (safeAt safe p)) ∧ Below w.heap.size w w' := by
  have HL : Hid (∀ w, _) := fun w => lineOf_any w safe p hs h
  have HB : Hid (Below w.heap.size w (w.alloc (.cells #[.string safe, v] 26))) := by show Below _ _ _; go_grown
  generalize safeAt safe p = st at HL ⊢
  go_enter Try.func39, Try.ntmps39
  go_wp2_with fail
  refine (HL.out _).mono ?_
  rintro e w' ⟨rfl, rfl⟩
  go_wp2
  go_ret
  exact ⟨rfl, HB.out⟩
theorem own_mono {w : World} {B B' : Nat} {e : TypeId} {size : Nat} {v : Value} {n : Nat} {xs : List Value} (h : w.ownsRow B e size v n xs) (hB : B' ≤ B) : w.ownsRow B' e size v n xs := by
  refine ⟨h.1, ?_⟩
  rcases h.2 with h2 | ⟨g, cap, cur, h1, h2, h3⟩
  · exact .inl h2
  · exact .inr ⟨g, cap, cur, h1, by omega, h3⟩
theorem own_below {w w' : World} {B : Nat} {e : TypeId} {size : Nat} {v : Value} {n : Nat} {xs : List Value} (h : w.ownsRow B e size v n xs) (hb : Below w.heap.size w w') : w'.ownsRow B e size v n xs :=
  h.kept (grown_below none hb) (by
    rcases hv : v.ownBlock with _ | k
    · exact .inl rfl
    · exact .inr (by simp))
/-- One more behind what a slice has, in whatever world. -/
theorem own_step {w w1 : World} {B : Nat} {v : Value} {n : Nat} {xs : List Value} {W : World} (h : w.ownsRow B 2 1 v n xs) (hb : Below B W w) (hB : B ≤ w.heap.size) (hg : w.grownBy w1 v.ownBlock) : Below B W w1 :=
  hb.trans (grown_own hg (fun k hk => (h.lt k hk).1) hB)
theorem impl_risk_no (w : World) (safe : ByteArray) (a : Option Addr) (cap : Nat) (ls : List Ln) (hs : safe.size ≤ 1048576) (hn : ls.length ≤ 1048576) (hl : Lines w a ls) (hz : ∀ i (hi : i < ls.length), ls[i].data.size ≤ 1048576 ∧ ls[i].sent.size ≤ 1048576) (hbad : ¬ DevOk safe ls) :
    Calls Try.prog 21 #[.agg #[.string safe, .slice a ls.length cap]] w fun e w' => e = .returned (.slice none 0 0) ∧ Below w.heap.size w w' := by
  have hb0 : Below w.heap.size w (w.alloc (.cells #[.string safe, .slice a ls.length cap] 26)) := by go_grown
  have HC : Hid (Calls _ _ _ _ _) := impl_ok (w.alloc (.cells #[.string safe, .slice a ls.length cap] 26)) safe a cap ls hs hn (hl.below hb0) hz
  clear hl hz
  go_enter Try.func21, Try.ntmps21
  go_wp2_with fail
  refine HC.out.mono ?_
  rintro e w2 ⟨b, rfl, hb, hb2⟩
  have hf : b = false := by
    cases b
    · rfl
    · exact absurd (hb.1 rfl) hbad
  subst hf
  clear hb
  go_wp2
  go_ret
  exact ⟨rfl, hb0.trans (hb2.mono hb0.size)⟩
set_option maxHeartbeats 4000000 in
theorem impl_risk (w : World) (safe : ByteArray) (a : Option Addr) (cap : Nat) (ls : List Ln) (hs : safe.size ≤ 1048576) (hn : ls.length ≤ 1048576) (hl : Lines w a ls) (hz : ∀ i (hi : i < ls.length), ls[i].data.size ≤ 1048576 ∧ ls[i].sent.size ≤ 1048576) (hok : DevOk safe ls) :
    Calls Try.prog 21 #[.agg #[.string safe, .slice a ls.length cap]] w fun e w' => ∃ v, e = .returned v ∧ w'.ownsRow w.heap.size 2 1 v (riskL safe ls).length ((riskL safe ls).map (Value.int .i64)) ∧ Below w.heap.size w w' := by
  obtain ⟨i0, hi, hzz⟩ := Option.map_eq_some_iff.1 infoInt
  simp only [Prod.mk.injEq] at hzz
  obtain ⟨hz0, hz1, hz2⟩ := hzz
  obtain ⟨W, hW⟩ : ∃ W, W = w.alloc (.cells #[.string safe, .slice a ls.length cap] 26) := ⟨_, rfl⟩
  have HB0 : Hid (Below w.heap.size w W) := by rw [hW]; exact (Below.refl _ _).alloc (Nat.le_refl _) _
  have hsz : w.heap.size < W.heap.size := by rw [hW]; simp
  have k0 : W.cell? ⟨w.heap.size, 0, none⟩ = some (.string safe) := by rw [hW, World.cell?_alloc_new]; rfl
  have k1 : W.cell? ⟨w.heap.size, 1, none⟩ = some (.slice a ls.length cap) := by rw [hW, World.cell?_alloc_new]; rfl
  have HK : Hid (∀ w', Below W.heap.size W w' → w'.cell? ⟨w.heap.size, 0, none⟩ = some (.string safe) ∧ w'.cell? ⟨w.heap.size, 1, none⟩ = some (.slice a ls.length cap)) := fun w' h =>
    ⟨by rw [h.cell (p := ⟨w.heap.size, 0, none⟩) hsz]; exact k0, by rw [h.cell (p := ⟨w.heap.size, 1, none⟩) hsz]; exact k1⟩
  have HW : Hid (W = w.alloc (.cells #[.string safe, .slice a ls.length cap] 26)) := hW
  have HC : Hid (Calls _ _ _ _ _) := impl_ok W safe a cap ls hs hn (hl.below HB0.out) hz
  have HL : Hid (Lines W a ls) := hl.below HB0.out
  have HOK : Hid (DevOk safe ls) := hok
  clear hW hl hz hok k0 k1
  go_enter Try.func21, Try.ntmps21
  go_wp2_with fail
  rw [← HW.out]
  refine HC.out.mono ?_
  rintro e w2 ⟨b, rfl, hb, hb2⟩
  have hf : b = true := hb.2 HOK.out
  subst hf
  have HB2 : Hid (Below W.heap.size W w2) := hb2
  clear hb hb2
  obtain ⟨m0, m1⟩ := HK.out w2 HB2.out
  go_wp2
  clear m0 m1
  go_loopw [3, 12] (fun v i wr => ∃ k : Nat, k ≤ ls.length ∧ i = .int .i64 k ∧ wr.ownsRow W.heap.size 2 1 v (riskL safe (ls.take k)).length ((riskL safe (ls.take k)).map (Value.int .i64)) ∧ Below W.heap.size W wr) (fun _ i _ => ls.length - (intOf i).toNat)
  case atStart => exact ⟨0, Nat.zero_le _, rfl, World.ownsRow_nil _ _ _ _, HB2.out⟩
  case round =>
    obtain ⟨k, hk, rfl, hown, hb⟩ := hrel
    have HO : Hid (wr.ownsRow W.heap.size 2 1 _ (riskL safe (ls.take k)).length ((riskL safe (ls.take k)).map (Value.int .i64))) := hown
    have HB : Hid (Below W.heap.size W wr) := hb
    clear hown hb
    by_cases hlt : k < ls.length
    · have hlk := HOK.out.2.2.2 k hlt
      have hst := riskL_take safe ls k hlt
      have hle := riskL_le safe ls k
      obtain ⟨bb, off, rfl, c0, c1, c2⟩ := (HL.out k hlt).below HB.out
      generalize ls[k] = l at c0 c1 c2 hlk hst
      obtain ⟨pl, dt, sn⟩ := l
      simp only at c0 c1 c2 hst
      obtain ⟨_, hp0, hp1, hd64, _⟩ := hlk
      simp only at hp0 hp1 hd64
      obtain ⟨p, rfl⟩ := Int.eq_ofNat_of_zero_le hp0
      have h64 : 64 * p + 64 ≤ safe.size := by have := HOK.out.1; omega
      have HST : Hid (riskL safe (ls.take (k + 1)) = riskL safe (ls.take k) ++ (if risky safe ⟨(p : Int), dt, sn⟩ = true then [(p : Int)] else [])) := hst
      generalize riskL safe (ls.take k) = R at HO HST hle
      have HR : Hid (risky safe ⟨(p : Int), dt, sn⟩ = !(dt.toList == (safeAt safe p).toList)) := rfl
      have HCL : Hid (∀ w, Calls _ _ _ w _) := fun w => safeLine_any w safe (.slice (some ⟨bb, off, none⟩) ls.length cap) p hs h64
      generalize safeAt safe p = sl at HR HCL
      obtain ⟨X, hX⟩ : ∃ X, X = wr.alloc (.cells #[.int .i64 (p : Int), .string dt, .string sn] 46) := ⟨_, rfl⟩
      have HX : Hid (X = wr.alloc (.cells #[.int .i64 (p : Int), .string dt, .string sn] 46)) := hX
      have hBX : Below wr.heap.size wr X := by rw [hX]; exact (Below.refl _ _).alloc (Nat.le_refl _) _
      have HBX : Hid (Below W.heap.size W X) := HB.out.trans (hBX.mono HB.out.size)
      have HOX : Hid (X.ownsRow W.heap.size 2 1 _ R.length (R.map (Value.int .i64))) := own_below HO.out hBX
      have x0 : X.cell? ⟨wr.heap.size, 0, none⟩ = some (.int .i64 (p : Int)) := by rw [hX, World.cell?_alloc_new]; rfl
      have x1 : X.cell? ⟨wr.heap.size, 1, none⟩ = some (.string dt) := by rw [hX, World.cell?_alloc_new]; rfl
      have hXs : wr.heap.size < X.heap.size := by rw [hX]; simp
      have HXK : Hid (∀ w', Below X.heap.size X w' → w'.cell? ⟨wr.heap.size, 0, none⟩ = some (.int .i64 (p : Int)) ∧ w'.cell? ⟨wr.heap.size, 1, none⟩ = some (.string dt)) := fun w' h =>
        ⟨by rw [h.cell (p := ⟨wr.heap.size, 0, none⟩) hXs]; exact x0, by rw [h.cell (p := ⟨wr.heap.size, 1, none⟩) hXs]; exact x1⟩
      obtain ⟨m0, m1⟩ := HK.out X HBX.out
      have HD : Hid (∀ w', Below X.drew.heap.size X.drew w' → Below X.heap.size X w') := fun w' h => ⟨h.os, h.tape, h.output, h.size, h.block⟩
      clear hst hp0 hp1 hd64 hX hBX
      cases hcmp : (dt.toList == sl.toList) with
      | true =>
        rw [hcmp] at HR
        go_wp2_with (rw [← HX.out])
        go_region_with (go_at_call 39; refine (HCL.out _).mono ?_; rintro e w5 ⟨rfl, hb5⟩; obtain ⟨o0, o1⟩ := HXK.out w5 (HD.out w5 hb5))
        all_goals
          have HB5 : Hid (Below X.heap.size X w5) := HD.out w5 hb5
          clear c0 c1 c2 m0 m1 hb5 o0 o1 x0 x1
          go_wp2
          go_roundw
          case rel => exact ⟨k + 1, by omega, by go_num, by rw [HST.out, HR.out]; simpa using own_below HOX.out HB5.out, HBX.out.trans (HB5.out.mono HBX.out.size)⟩
          case measure => simp [intOf]; omega
      | false =>
        rw [hcmp] at HR
        go_wp2_with (rw [← HX.out])
        go_region_with (go_at_call 39; refine (HCL.out _).mono ?_; rintro e w5 ⟨rfl, hb5⟩; obtain ⟨o0, o1⟩ := HXK.out w5 (HD.out w5 hb5))
        all_goals
          have HB5 : Hid (Below X.heap.size X w5) := HD.out w5 hb5
          have HBD : Hid (Below W.heap.size W w5) := HBX.out.trans (HB5.out.mono HBX.out.size)
          have HOD : Hid (w5.ownsRow W.heap.size 2 1 _ R.length (R.map (Value.int .i64))) := own_below HOX.out HB5.out
          have hWs : W.heap.size ≤ w5.heap.size := HBD.out.size
          clear c0 c1 c2 m0 m1 hb5 o1 x0 x1
          go_wp2_with (at_builtin; refine wpList_append_lies _ rfl _ _ 39 rfl W.heap.size 2 i0 (.int .i64 0) 1 8 Try.underlying39 hi hz0 hz1 hz2 rfl (by decide) _ _ _ rfl (HOD.out.alloc _) ⟨w5.heap.size, 0, none⟩ 1 1 [.int .i64 (p : Int)] rfl rfl ?c1 ?c2 (by decide) ?c3 ?c4 ?c5 _ rfl ?_)
          case c1 =>
            intro j u hj
            match j, hj with
            | 0, hj => simp at hj; subst hj; simp [Addr.add]
          case c2 => intro u hu; simp at hu; subst hu; rfl
          case c3 => unfold maxLen; omega
          case c4 => omega
          case c5 => simp; omega
          intro g cp w6 hown6 hgrow6 hat6 hlt6
          have HB6 : Hid (Below W.heap.size W w6) := own_step (HOD.out.alloc _) (HBD.out.alloc hWs _) (by simp; omega) hgrow6
          have hraw : w6.ownsRow W.heap.size 2 1 (.slice (some ⟨g, 0, none⟩) (R.length + 1) cp) (riskL safe (ls.take (k + 1))).length ((riskL safe (ls.take (k + 1))).map (Value.int .i64)) := by rw [HST.out, HR.out]; simpa using hown6
          have HO6 : Hid (w6.ownsRow W.heap.size 2 1 (.slice (some ⟨g, 0, none⟩) (R.length + 1) cp) (riskL safe (ls.take (k + 1))).length ((riskL safe (ls.take (k + 1))).map (Value.int .i64))) := hraw
          clear hraw
          clear hown6 hgrow6 hat6 hlt6
          go_wp2
          go_roundw
          case rel => exact ⟨k + 1, by omega, by go_num, HO6.out, HB6.out⟩
          case measure => simp [intOf]; omega
    · have he : ls.take k = ls := List.take_of_length_le (by omega)
      rw [he] at HO
      go_wp2
      go_ret
      exact ⟨_, rfl, own_mono HO.out HB0.out.size, HB0.out.trans (HB.out.mono HB0.out.size)⟩
end Go.Proofs.Ytgpmpijaggnocaa.dev
