/-
  OctetReads: for every input the law returns true and leaves its arguments as they were. It is proved for all arguments, without a condition.
-/
import Derived.Test.YtodlcfebpcnhnaaOctHex
import Derived.Test.YtodlcfebpcnhnaaOctRd
import Derived.Test.YtodlcfebpcnhnaaRefa
import Derived.WalkKit
import Derived.ProofKit
import Derived.OpenShut
import Derived.ShutString
import Derived.ChangeOld
import Derived.Below
import Derived.Lib.SmallJoins
import Derived.Deep.SlicePairs
import Derived.Deep.RegionHeld3
import Derived.Test.YtodlcfebpcnhnaaRows
namespace Go.Proofs.Ytodlcfebpcnhnaa.octetReads
open Go.ChangeShapes Go.WideShapes Go.ChangeAt Go.RowKit Go.Joins
open Go.ChangeMaps (open_string shut_string)
set_option linter.unusedVariables false

theorem own : ownKnob Try.prog.godebug = none := by kernel_rfl
theorem laidOut : laidOutB Try.prog = true := by kernel_rfl

/-- A slice of pairs of numbers that came in: nil, or its cells. -/
def IsPairs (k0 k1 : IntKind) (w : World) (a : Option Addr) (len : Nat) : Prop :=
  (a = none ∧ len = 0) ∨ ∃ x, a = some x ∧ ∀ i, i < len → ∃ n0 n1 : Int, w.cell? (x.add (i * 2)) = some (.int k0 n0) ∧ w.cell? (x.add (i * 2 + 1)) = some (.int k1 n1) ∧ (Lit.int k0 n0).wf = true ∧ (Lit.int k1 n1).wf = true

theorem walk_empty (w : World) (a0 : ByteArray) (w0 : a0.size ≤ maxLen) (a1 : Option Addr) (cap1 : Nat) :
    Calls Try.prog 7 #[.string a0, .slice a1 0 cap1] w fun e w' => e = .returned (.bool true) ∧ Below w.heap.size w w' := by
  generalize hs : cutB a0 40 = s
  have HS := Lib.hid hs; clear hs
  go_enter Try.func7, Try.ntmps7
  go_wp2_with fail
  refine (cut_any a0 w0 40 (by omega) _).mono ?_
  rintro e w1 ⟨rfl, rfl⟩
  rw [HS.out]
  go_wp2_with fail
  refine (new_any s _).mono ?_
  rintro e w1 ⟨rfl, rfl⟩
  go_wp2_with fail
  refine wp_loop_rounds 1 ?_
  rw [rounds_succ]
  go_wp2_with (go_at_call 14; refine (lives_any _).mono ?_; rintro e w2 ⟨rfl, hb⟩)
  go_ret
  exact ⟨rfl, bstep (((Below.refl _ _).alloc (Nat.le_refl _) _).alloc (by simp) _) (by assumption)⟩

theorem rnum_str (l : List UInt8) (hl : (Str l).size ≤ maxLen) (w : World) : Calls Try.prog 16 #[.string (Str l)] w fun e w' => e = .returned (.int .u64 (num l)) ∧ w = w' := rnum_any (Str l) hl w
theorem state_step {w : World} {b c : Nat} {l : List UInt8} {k : Nat} {bad : Bool} {n : Int} (hk : k ≤ l.length) (hr : RdAt w b (leftV (l.drop k) bad n) (pastV (l.drop k) bad n k) (badV (l.drop k) bad n)) (hx : RxAt w c l (pastV (l.drop k) bad n k) (badV (l.drop k) bad n)) :
    ∃ (k' : Nat) (bad' : Bool), k' ≤ l.length ∧ RdAt w b (l.drop k') k' bad' ∧ RxAt w c l k' bad' := by
  refine ⟨_, _, ?_, ?_, hx⟩
  · unfold pastV; split
    · exact hk
    · split
      · exact hk
      · rename_i h; simp at h; omega
  · have e : leftV (l.drop k) bad n = l.drop (pastV (l.drop k) bad n k) := by
      unfold leftV pastV; split
      · rfl
      · split
        · rfl
        · rw [List.drop_drop]
    rw [e] at hr
    exact hr

set_option maxRecDepth 100000 in
set_option maxHeartbeats 4000000 in
theorem walk_some (w : World) (a0 : ByteArray) (w0 : a0.size ≤ maxLen) (b off len cap : Nat) (hb : b < w.heap.size)
    (hc : ∀ i, i < len → ∃ n0 n1 : Int, w.cell? ⟨b, off + i * 2, none⟩ = some (.int .i64 n0) ∧ w.cell? ⟨b, off + i * 2 + 1, none⟩ = some (.int .i64 n1) ∧ (Lit.int .i64 n0).wf = true ∧ (Lit.int .i64 n1).wf = true) :
    Calls Try.prog 7 #[.string a0, .slice (some ⟨b, off, none⟩) len cap] w fun e w' => e = .returned (.bool true) ∧ Below w.heap.size w w' := by
  have hcs := cutB_size a0 40
  generalize hs : cutB a0 40 = s at hcs
  have HS := Lib.hid hs; clear hs
  obtain ⟨l, rfl⟩ : ∃ l, s = Str l := ⟨s.data.toList, (Str_of s).symm⟩
  rw [Str_size] at hcs
  have hsz : (Str l).size = l.length := Str_size l
  have HC := Lib.hid hc; clear hc
  go_enter Try.func7, Try.ntmps7
  go_wp2_with fail
  refine (cut_any a0 w0 40 (by omega) _).mono ?_
  rintro e w1 ⟨rfl, rfl⟩
  rw [HS.out]
  go_wp2_with fail
  refine (new_any (Str l) _).mono ?_
  rintro e w1 ⟨rfl, rfl⟩
  go_wp2_with fail
  have hr0 : RdAt ((w.alloc (.cells #[.string (Str l), .int .i64 0, .bool false] 67)).alloc (.cells #[.string (Str l), .int .i64 0, .bool false] 49)) w.heap.size (l.drop 0) 0 false := (ObjAt.made w _ _).alloc _
  have hx0 : RxAt ((w.alloc (.cells #[.string (Str l), .int .i64 0, .bool false] 67)).alloc (.cells #[.string (Str l), .int .i64 0, .bool false] 49)) (w.heap.size + 1) l 0 false := by
    have h := ObjAt.made (w.alloc (.cells #[.string (Str l), .int .i64 0, .bool false] 67)) #[.string (Str l), .int .i64 0, .bool false] 49
    simpa [RxAt] using h
  have hb0 : Below w.heap.size w ((w.alloc (.cells #[.string (Str l), .int .i64 0, .bool false] 67)).alloc (.cells #[.string (Str l), .int .i64 0, .bool false] 49)) := ((Below.refl _ _).alloc (Nat.le_refl _) _).alloc (by simp) _
  go_loopw [7] (fun i wr => ∃ j : Nat, j ≤ 30 ∧ i = .int .i64 j ∧ ∃ (k : Nat) (bad : Bool), k ≤ l.length ∧ RdAt wr w.heap.size (l.drop k) k bad ∧ RxAt wr (w.heap.size + 1) l k bad ∧ Below w.heap.size w wr) (fun i _ => 30 - (intOf i).toNat)
  case atStart => exact ⟨0, by omega, rfl, 0, false, by omega, hr0, hx0, hb0⟩
  case round =>
    obtain ⟨j, hj, rfl, k, bad, hk, hr, hx, hbel⟩ := hrel
    have Hr := Lib.hid hr; clear hr hr0
    have Hx := Lib.hid hx; clear hx hx0
    have Hbel := Lib.hid hbel; clear hbel hb0
    by_cases hlt : j < len
    · by_cases h30 : j < 30
      · obtain ⟨n0, n1, c0, c1, wf0, wf1⟩ := HC.out j hlt
        have d0 := (Hbel.out.cell (p := ⟨b, off + j * 2, none⟩) hb).trans c0
        have d1 := (Hbel.out.cell (p := ⟨b, off + j * 2 + 1, none⟩) hb).trans c1
        clear c0 c1 wf0
        obtain ⟨b2, b3⟩ := bounds_i64 wf1
        clear wf1
        by_cases hz : n0 = 0
        · have hz' : (n0 == 0) = true := by simp [hz]
          clear hz
          have hne : ∀ z : Int, (z != z) = false := fun z => by simp
          go_wp2_with fail
          go_region_held3 (fun w' => w'.cell? ⟨b, off + j * 2 + 1, none⟩ = some (.int .i64 n1)) (go_keep) (first
            | (go_at_call 25; refine (num_any w.heap.size (l.drop k) k bad n1 (by simp; omega) (by omega) _ (ObjAt.drew Hr.out)).mono ?_; rintro e w1 ⟨rfl, h1, g1⟩; have Hr1 := Lib.hid h1; clear h1; have Hx1 := Lib.hid ((ObjAt.drew Hx.out).grown g1 (by simp)); have Hb1 := Lib.hid (bgrown (Below.drew Hbel.out) g1 (by simp)); have hd1 := g1.cell_far ⟨b, off + j * 2 + 1, none⟩ (by have := Hbel.out.size; simp; omega) (by simp; omega); clear g1)
            | (go_at_call 10; refine (within_any n1 8 _).mono ?_; rintro e w2 ⟨rfl, rfl⟩)
            | (go_at_call 26; refine (rtake_any (w.heap.size + 1) l k bad _ (by omega) hk _ Hx1.out).mono ?_; rintro e w3 ⟨rfl, h3, g3⟩; have Hx3 := Lib.hid h3; clear h3; have Hr3 := Lib.hid (Hr1.out.grown g3 (by simp)); have Hb3 := Lib.hid (bgrown Hb1.out g3 (by simp)); have hd3 := g3.cell_far ⟨b, off + j * 2 + 1, none⟩ (by have := Hb1.out.size; simp; omega) (by simp; omega); clear g3)
            | (go_at_call 16; refine (rnum_str _ (by rw [Str_size]; unfold maxLen; have := takeV_le (l.drop k) bad (clampN n1 8); simp at this; omega) _).mono ?_; rintro e w4 ⟨rfl, rfl⟩))
          go_wp2_with fail
          obtain ⟨k', bad', hk', hr', hx'⟩ := state_step (l := l) (k := k) (bad := bad) (by omega) Hr3.out Hx3.out
          have Hr' := Lib.hid hr'
          have x0 := hx'.cell 0
          have x1 := hx'.cell 1
          have x2 := hx'.cell 2
          simp at x0 x1 x2
          have Hx' := Lib.hid hx'
          clear hr' hx' Hr1 Hx1 Hb1 Hr3 Hx3 hd1 hd3
          have hext : (Str l).extract k' l.length = Str (l.drop k') := by rw [Str_extract, List.take_of_length_le (by simp)]
          have hk1 : (0 : Int) ≤ (k' : Int) ∧ (k' : Int) ≤ (l.length : Int) := by omega
          have hcmp : ((l.length - k' : Nat) : Int) = (l.length : Int) - (k' : Int) := by omega
          go_wp2_with fail
          go_quiet (first
            | ((go_at_call 28; exact Calls.quiet_of_same (rest_any w.heap.size _ k' bad' _ (ObjAt.drewN Hr'.out _))))
            | ((go_at_call 29; exact Calls.quiet_of_same (left_any w.heap.size _ k' bad' _ (ObjAt.drewN Hr'.out _))))
            | ((go_at_call 30; exact Calls.quiet_of_same (at_any w.heap.size _ k' bad' _ (ObjAt.drewN Hr'.out _))))
            | ((go_at_call 31; exact Calls.quiet_of_same (bad_any w.heap.size _ k' bad' _ (ObjAt.drewN Hr'.out _)))))
          have Hb3' := Lib.hid Hb3.out
          clear Hb3 x0 x1 x2
          go_wp2
          go_roundw
          case rel => exact ⟨j + 1, by omega, by go_num, k', bad', hk', ObjAt.drewN Hr'.out _, ObjAt.drewN Hx'.out _, bdrewN Hb3'.out _⟩
          case measure => simp [intOf]; omega
        · have hz' : (n0 == 0) = false := by simp [hz]
          clear hz
          have hne : ∀ z : List UInt8, (z == z) = true := fun z => by simp
          go_wp2_with fail
          go_region_held3 (fun w' => w'.cell? ⟨b, off + j * 2 + 1, none⟩ = some (.int .i64 n1)) (go_keep) (first
            | (go_at_call 27; refine (take_any w.heap.size (l.drop k) k bad n1 (by simp; omega) (by omega) _ (ObjAt.drew Hr.out)).mono ?_; rintro e w1 ⟨rfl, h1, g1⟩; have Hr1 := Lib.hid h1; clear h1; have Hx1 := Lib.hid ((ObjAt.drew Hx.out).grown g1 (by simp)); have Hb1 := Lib.hid (bgrown (Below.drew Hbel.out) g1 (by simp)); have hd1 := g1.cell_far ⟨b, off + j * 2 + 1, none⟩ (by have := Hbel.out.size; simp; omega) (by simp; omega); clear g1)
            | (go_at_call 26; refine (rtake_any (w.heap.size + 1) l k bad _ (by omega) hk _ Hx1.out).mono ?_; rintro e w3 ⟨rfl, h3, g3⟩; have Hx3 := Lib.hid h3; clear h3; have Hr3 := Lib.hid (Hr1.out.grown g3 (by simp)); have Hb3 := Lib.hid (bgrown Hb1.out g3 (by simp)); have hd3 := g3.cell_far ⟨b, off + j * 2 + 1, none⟩ (by have := Hb1.out.size; simp; omega) (by simp; omega); clear g3))
          obtain ⟨k', bad', hk', hr', hx'⟩ := state_step (l := l) (k := k) (bad := bad) (by omega) Hr3.out Hx3.out
          have Hr' := Lib.hid hr'
          have x0 := hx'.cell 0
          have x1 := hx'.cell 1
          have x2 := hx'.cell 2
          simp at x0 x1 x2
          have Hx' := Lib.hid hx'
          clear hr' hx' Hr1 Hx1 Hb1 Hr3 Hx3 hd1 hd3
          have hext : (Str l).extract k' l.length = Str (l.drop k') := by rw [Str_extract, List.take_of_length_le (by simp)]
          have hk1 : (0 : Int) ≤ (k' : Int) ∧ (k' : Int) ≤ (l.length : Int) := by omega
          have hcmp : ((l.length - k' : Nat) : Int) = (l.length : Int) - (k' : Int) := by omega
          go_wp2_with fail
          go_quiet (first
            | ((go_at_call 28; exact Calls.quiet_of_same (rest_any w.heap.size _ k' bad' _ (ObjAt.drewN Hr'.out _))))
            | ((go_at_call 29; exact Calls.quiet_of_same (left_any w.heap.size _ k' bad' _ (ObjAt.drewN Hr'.out _))))
            | ((go_at_call 30; exact Calls.quiet_of_same (at_any w.heap.size _ k' bad' _ (ObjAt.drewN Hr'.out _))))
            | ((go_at_call 31; exact Calls.quiet_of_same (bad_any w.heap.size _ k' bad' _ (ObjAt.drewN Hr'.out _)))))
          have Hb3' := Lib.hid Hb3.out
          clear Hb3 x0 x1 x2
          go_wp2
          go_roundw
          case rel => exact ⟨j + 1, by omega, by go_num, k', bad', hk', ObjAt.drewN Hr'.out _, ObjAt.drewN Hx'.out _, bdrewN Hb3'.out _⟩
          case measure => simp [intOf]; omega
      · go_wp2_with (go_at_call 14; refine (lives_any _).mono ?_; rintro e w2 ⟨rfl, hb⟩)
        go_ret
        exact ⟨rfl, bstep Hbel.out (by assumption)⟩
    · go_wp2_with (go_at_call 14; refine (lives_any _).mono ?_; rintro e w2 ⟨rfl, hb⟩)
      go_ret
      exact ⟨rfl, bstep Hbel.out (by assumption)⟩

theorem walk (w : World) (a0 : ByteArray) (w0 : a0.size ≤ maxLen) (a1 : Option Addr) (len1 cap1 : Nat) (w1 : IsPairs .i64 .i64 w a1 len1) :
    Calls Try.prog 7 #[.string a0, .slice a1 len1 cap1] w fun e w' => e = .returned (.bool true) ∧ Below w.heap.size w w' := by
  rcases w1 with ⟨rfl, rfl⟩ | ⟨⟨b, off, spot⟩, rfl, hc⟩
  · exact walk_empty w a0 w0 none cap1
  · by_cases h0 : len1 = 0
    · subst h0; exact walk_empty w a0 w0 _ cap1
    · obtain ⟨n0, n1, c0, _⟩ := hc 0 (by omega)
      have hspot : spot = none := by simpa [Addr.add] using World.cell?_spot c0
      subst hspot
      have hb : b < w.heap.size := by simpa [Addr.add] using World.block_lt_of_cell? w _ c0
      refine walk_some w a0 w0 b off len1 cap1 hb fun i hi => ?_
      have this := hc i hi
      have e : ∀ m, (⟨b, off, none⟩ : Addr).add m = ⟨b, off + m, none⟩ := fun m => by unfold Addr.add; split <;> simp_all
      rw [e, e] at this
      exact this

set_option maxRecDepth 100000 in
theorem lifted (os : Os) (started : os.Started) (H : Type) (enc : TypeId × Value → H) :
    ReturnsInHanded {} Try.checked os 7 .any (Rows.octetReadsSpec.pre6 enc Try.prog Try.f7 Rows.octetReadsRow.domain false) (Rows.octetReadsSpec.post enc Try.prog Try.f7 false true false false) := by
  refine returnsInHanded_of_change (C := Try.checked) own started (by kernel_rfl) Try.func7
    (ChangeSpec.witness6 (enc := enc) (C := Try.checked) false ⟨#[], #[.string ByteArray.empty, .slice none 0 0], []⟩ 8 (by kernel_rfl) (by kernel_rfl) (by kernel_rfl) (by kernel_rfl)) ?_
  intro W base args ds gs before hval0 hW hcnd _
  have hval : ∀ (j : Nat) t v, Try.f7.params[j]? = some t → args[j]? = some v → Value.okWide Try.prog W .any base t v := hval0
  have hW' := hW
  obtain ⟨p, q, hA0, hV, rfl, hfz, hnd⟩ := hW
  have hA : DataW.TrodAll enc Try.prog W 0 (fun _ => true) true Try.f7.params.toList args.toList ds p := hA0
  rw [Try.params7] at hA hval
  obtain ⟨v0, vs0, d0, ds0, p0, q0, hargs, rfl, rfl, h0, r0⟩ := trodAll_cons hA
  obtain ⟨v1, vs1, d1, ds1, p1, q1, rfl, rfl, rfl, h1, r1⟩ := trodAll_cons r0
  obtain ⟨rfl, rfl, rfl⟩ := trodAll_nil r1
  obtain rfl : args = #[v0, v1] := by cases args; simp_all
  obtain ⟨rfl, rfl⟩ := trodVars_none hV
  obtain ⟨a0, rfl, rfl, rfl, w0⟩ := open_string Try.underlying9 (hval 0 9 v0 rfl rfl) h0
  have k1 := h1
  have lt1 : ∀ x ∈ p1, x.block < W.heap.size := by obtain ⟨m, hm⟩ := k1; exact DataW.trod_lt m _ _ _ hm
  obtain ⟨a1, len1, cap1, rfl⟩ := okWide_slice Try.underlying44 (hval 1 44 v1 rfl rfl)
  obtain ⟨w1⟩ : IsPairs .i64 .i64 W a1 len1 ∧ True := by
    obtain ⟨fuel, hf⟩ := h1
    rcases Go.Deep.open_slice_pairs Try.underlying44 Try.underlying51 (by kernel_rfl) rfl rfl (by kernel_rfl) (by kernel_rfl) hf with ⟨hcs, _⟩ | ⟨x, l, c, m, nn, V0, V1, D0, D1, P0, P1, hcs, _, hl, _, hmm, _, hc⟩
    · simp [Value.cells] at hcs; obtain ⟨rfl, rfl, _⟩ := hcs; exact ⟨.inl ⟨rfl, rfl⟩, trivial⟩
    · simp [Value.cells] at hcs; obtain ⟨rfl, rfl, rfl⟩ := hcs
      refine ⟨.inr ⟨x, rfl, fun i hi => ?_⟩, trivial⟩
      obtain ⟨c0, c1, t0, t1⟩ := hc i (by rw [hmm]; split <;> omega)
      obtain ⟨q0, e0, _, g0⟩ := DataW.trod_int Try.underlying3 t0
      obtain ⟨q1, e1, _, g1⟩ := DataW.trod_int Try.underlying3 t1
      simp at e0 e1
      exact ⟨q0, q1, by rw [c0, e0], by rw [c1, e1], g0, g1⟩
  clear hA0 hval0
  refine (walk W a0 w0 a1 len1 cap1 w1).mono fun e W' ⟨he, bel⟩ => ?_
  subst he
  exact ⟨_, rfl, _, _, _, [], _, [], hW', trodAll_mk1 (shut_bool Try.underlying4 _), (trodAll_cons_mk (shut_string Try.underlying9 w0) (trodAll_cons_mk (Below.trod laidOut (by kernel_rfl) (of_decide_eq_true (by kernel_rfl)) k1 bel lt1) trodAll_mk0)), rfl, bel.frame _, fun h => by cases h⟩

theorem over : Rows.octetReadsRow.holds Try.pinned (OpenSpec.ofChange Rows.octetReadsSpec) :=
  OpenClaim.holds_of_wide 7 Try.f7 rfl rfl rfl rfl rfl rfl rfl ⟨rfl, rfl, rfl, rfl, rfl⟩ rfl rfl rfl rfl rfl (by kernel_rfl) Try.func7 (by kernel_rfl)
    (of_decide_eq_true (by kernel_rfl)) (by unfold Func.isWrapper; first | (rw [if_pos (by decide +kernel)]; kernel_rfl) | (rw [if_neg (by decide +kernel)]; exact ⟨rfl, rfl⟩))
    (fun os started H enc _ => lifted os started H enc)

theorem proved : Rows.OctetReadsSaid := over
#print axioms proved
end Go.Proofs.Ytodlcfebpcnhnaa.octetReads
