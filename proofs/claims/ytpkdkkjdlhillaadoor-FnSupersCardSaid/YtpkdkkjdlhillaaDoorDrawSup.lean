/-
  The draws of lines of configs: a right one's, and hurt ones.
-/
import Derived.Test.YtpkdkkjdlhillaaDoorRightC
import Derived.Test.YtpkdkkjdlhillaaDoorFmtLaw
import Derived.Test.YtpkdkkjdlhillaaDoorDrawFmt
import Derived.Deep.RegionWith
namespace Go.Proofs.YtpkdkkjdlhillaaDoor.crc
open Go.RowKit
open wmath wb num rd kinds txt

set_option maxHeartbeats 1000000 in
theorem with_any (w : World) (s : ByteArray) (o : Nat) (d : ByteArray) (hs : s.size ≤ 60) (h : o + d.size ≤ s.size) :
    Calls Tryd.prog 36 #[.string s, .int .i64 (o : Int), .string d] w fun e w' => ∃ t : ByteArray, e = .returned (.string t) ∧ t.size ≤ 60 ∧ Below w.heap.size w w' := by
  have h1 : (0 : Int) ≤ (o : Int) := by omega
  have h2 : (o : Int) ≤ (s.size : Int) := by omega
  have h3 : IntKind.i64.wrap ((o : Int) + (d.size : Int)) = (o : Int) + (d.size : Int) := by rw [IntKind.wrap_i64]; omega
  have h4 : (o : Int) + (d.size : Int) ≤ (s.size : Int) := by omega
  have h5 : (0 : Int) ≤ (o : Int) + (d.size : Int) := by omega
  have hz1 : (s.extract 0 o).size = o := by simp; omega
  have hz2 : (s.extract (o + d.size) s.size).size = s.size - (o + d.size) := by simp
  have h6 : (s.extract 0 o).size + d.size ≤ 1048576 := by omega
  have h7 : (s.extract 0 o ++ d).size + (s.extract (o + d.size) s.size).size ≤ 1048576 := by rw [ByteArray.size_append]; omega
  have HZ : Hid ((s.extract 0 o ++ d ++ s.extract (o + d.size) s.size).size ≤ 60) := by
    show (s.extract 0 o ++ d ++ s.extract (o + d.size) s.size).size ≤ 60
    rw [ByteArray.size_append, ByteArray.size_append]; omega
  go_enter Tryd.func36, Tryd.ntmps36
  go_wp2
  go_region
  all_goals
    go_wp2
    go_ret
    exact ⟨_, rfl, HZ.out, by first | exact Below.refl _ _ | exact (Below.refl _ _).drew | go_grown⟩

set_option maxHeartbeats 4000000 in
set_option maxRecDepth 20000 in
theorem draw_read_super (w : World) (a : Option Addr) (len cap : Nat) (hs : len ≤ 1048576) (hc : RdCode w w.heap.size a len) :
    Calls Tryd.prog 9 #[.slice a len cap] w fun e w' => ∃ t : ByteArray, e = .returned (.string t) ∧ t.size ≤ 1000 ∧ Below w.heap.size w w' := by
  have HC : Hid (RdCode w w.heap.size a len) := hc
  clear hc
  go_enter Tryd.func9, Tryd.ntmps9
  go_wp2_with fail
  refine (open_any _ a len cap hs HC.out).mono ?_
  rintro x w1 ⟨rfl, hr1, hb1⟩
  have HR1 : Hid (Rd w1 w.heap.size a len cap) := hr1
  have HB1 : Hid (Below w.heap.size w w1) := hb1
  clear hr1 hb1
  go_wp2_with fail
  refine (config_right w1 _ a len cap HR1.out).mono ?_
  rintro e w2 ⟨⟨n1, n2, n3, v, rfl, xs, hok, hx1, hx3, hown, hr2, hg2⟩, _⟩
  obtain ⟨av, gv, cv, rfl, _, htx⟩ := txts_of_row hown
  have HR2 : Hid (Rd w2 w.heap.size a len cap) := hr2
  have HB2 : Hid (Below w.heap.size w w2) := below_of HB1.out hg2 (Nat.le_refl _) HB1.out.size
  have hzz : ∀ i (hi : i < xs.length), xs[i].size ≤ 1048576 := fun i hi => by have := isType_size ((conf_in hok).2.2.2.2 i hi); omega
  have HSP : Hid (Calls _ _ _ w2 _) := spec_super w2 n1 n2 n3 av cv xs (by omega) htx.strs hzz
  have h64 : (superStr n1 n2 n3 xs).size = 64 := (sup_back hok).1
  generalize superStr n1 n2 n3 xs = l at HSP h64
  clear hown hr2 hg2 htx hzz hok
  go_wp2_with fail
  refine HSP.out.mono ?_
  rintro e w3 ⟨rfl, hb3⟩
  have HR3 : Hid (Rd w3 w.heap.size a len cap) := HR2.out.later hb3
  have HB3 : Hid (Below w.heap.size w w3) := HB2.out.trans (hb3.mono HB2.out.size)
  clear hb3 HSP
  go_wp2_with fail
  refine (below_pos _ _ a len cap HR3.out 5 (by omega) (by omega)).mono ?_
  rintro e w4 ⟨u, rfl, hu, hr4, hb4⟩
  have HR4 : Hid (Rd w4 w.heap.size a len cap) := hr4
  have HB4 : Hid (Below w.heap.size w w4) := below_of HB3.out hb4 (Nat.le_refl _) HB3.out.size
  clear hr4 hb4
  by_cases h0 : u = 0
  · subst h0
    go_wp2_with fail
    refine (hurt_any _ _ a len cap HR4.out l (by omega)).mono ?_
    rintro e w5 ⟨t, rfl, ht, _, hb5⟩
    have HB5 : Hid (Below w.heap.size w w5) := below_of HB4.out hb5 (Nat.le_refl _) HB4.out.size
    clear hb5
    go_wp2
    go_ret
    exact ⟨t, rfl, by omega, HB5.out⟩
  have e0 : ((u : Int) == 0) = false := by simp; omega
  by_cases h1 : u = 1
  · subst h1
    go_wp2_with fail
    refine (below_pos _ _ a len cap HR4.out 60 (by omega) (by omega)).mono ?_
    rintro e w5 ⟨p, rfl, hp, hr5, hb5⟩
    have HR5 : Hid (Rd w5 w.heap.size a len cap) := hr5
    have HB5 : Hid (Below w.heap.size w w5) := below_of HB4.out hb5 (Nat.le_refl _) HB4.out.size
    have g60 : (60 : Int) ≤ (l.size : Int) := by omega
    have hx60 : (l.extract 0 60).size = 60 := by rw [ByteArray.size_extract]; omega
    have HWI : Hid (∀ (W : World) (x : Int), Calls Tryd.prog 36 #[.string (l.extract 0 60), .int .i64 (p : Int), .string (strOfNums [x])] W fun e w' => ∃ t : ByteArray, e = .returned (.string t) ∧ t.size ≤ 60 ∧ Below W.heap.size W w') := fun W x => with_any W (l.extract 0 60) p (strOfNums [x]) (by omega) (by rw [hx60, strOfNums_size]; simp; omega)
    have HSE : Hid (∀ (W : World) (t : ByteArray), t.size ≤ 60 → ∃ z : ByteArray, z.size = 64 ∧ Calls Tryd.prog 35 #[.string t] W fun e w' => e = .returned (.string z) ∧ Below W.heap.size W w') := fun W t ht => ⟨_, sealedStr_size t ht, spec_sealed t W ht⟩
    have hcv : ∀ (w : World) (T : TypeId) (x : Int), (convert 22 9 (.slice (some ⟨w.heap.size, 0, none⟩) 1 1)).run Tryd.prog (w.alloc (.cells #[.int .u8 x] T)) = .ok (.string (strOfNums [x])) (w.alloc (.cells #[.int .u8 x] T)) := fun w T x => by simpa using conv.conv_at w T [x] 1 1 (by simp)
    clear hx60 hr5 hb5 e0 h0
    go_wp2
    go_region_with (first | (go_at_call 33; refine (below_pos _ _ a len cap HR5.out.drew 256 (by omega) (by omega)).mono ?_; rintro x w6 ⟨q, rfl, hq, hr, hb⟩; have HB6 : Hid (Below w.heap.size w w6) := below_of HB5.out.drew hb (Nat.le_refl _) HB5.out.size; clear hr hb) | (go_at_call 36; refine (HWI.out _ _).mono ?_; rintro x w7 ⟨t, rfl, ht, hb⟩; have HB7 : Hid (Below w.heap.size w w7) := (HB6.out.alloc HB6.out.size _).trans (hb.mono (HB6.out.alloc HB6.out.size _).size); clear hb; obtain ⟨z, hz, hcall⟩ := HSE.out w7 t ht; have HCL : Hid (Calls _ _ _ _ _) := hcall; clear hcall) | (go_at_call 35; refine HCL.out.mono ?_; rintro x w8 ⟨rfl, hb⟩; have HB8 : Hid (Below w.heap.size w w8) := HB7.out.trans (hb.mono HB7.out.size); clear hb))
    all_goals
      go_wp2
      go_ret
      exact ⟨_, rfl, by omega, HB8.out⟩
  have e1 : ((u : Int) == 1) = false := by simp; omega
  clear h0 h1
  go_wp2
  go_ret
  exact ⟨l, rfl, by omega, HB4.out⟩
end Go.Proofs.YtpkdkkjdlhillaaDoor.crc
