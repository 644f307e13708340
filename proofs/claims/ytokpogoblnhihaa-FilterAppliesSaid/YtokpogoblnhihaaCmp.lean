/-
  Which of two addresses stands first: the program's answer and the document's.
-/
import Derived.Test.YtokpogoblnhihaaMg04
import Derived.Lib.BytesEntry
import Derived.BigQuiet
import Derived.Deep.QuietTactic
import Derived.WalkLawsBesides
import Derived.LoopTactic
namespace Go.Proofs.Ytokpogoblnhihaa
open Go.RowKit
set_option linter.unusedVariables false

theorem bytesOf_nums (l : List UInt8) : Lib.bytesOf (l.map fun c => (c.toNat : Int)) = l := by
  unfold Lib.bytesOf
  rw [List.map_map]
  conv => rhs; rw [← List.map_id l]
  apply List.map_congr_left
  intro c _
  simp
theorem run_load_row {P : Program} {w : World} {b o : Nat} {l : List UInt8} (h : RowAt w b o l) : (Extern.Bytes.loadBytes ⟨b, o, none⟩ l.length .empty).run P w = .ok ⟨l.toArray⟩ w := by
  have hl := Lib.run_loadBytesX (P := P) w (l.map fun c => (c.toNat : Int)) ⟨b, o, none⟩ .empty (fun j x hj => by
    rw [List.getElem?_map] at hj
    have hjl : j < l.length := by
      by_cases hlt : j < l.length
      · exact hlt
      · rw [List.getElem?_eq_none (by omega)] at hj; simp at hj
    have e : (⟨b, o, none⟩ : Addr).add j = ⟨b, o + j, none⟩ := by unfold Addr.add; split <;> simp_all
    rw [List.getElem?_eq_getElem hjl] at hj
    simp at hj
    subst hj
    rw [e, h j hjl])
  rw [List.length_map, bytesOf_nums] at hl
  rw [hl]
  congr 1
  apply ByteArray.ext
  show (#[] : Array UInt8) ++ l.toArray = l.toArray
  simp
theorem run_compare_rows {P : Program} {w : World} {b b' o o' c c' : Nat} {l l' : List UInt8} (h : RowAt w b o l) (h' : RowAt w b' o' l') (n n' : Nat) (hn : l.length = n) (hn' : l'.length = n') :
    (Extern.BytealgCompare.compare #[.slice (some ⟨b, o, none⟩) n c, .slice (some ⟨b', o', none⟩) n' c']).run P w = .ok (.int .i64 (Lib.compareBytes l l')) w := by
  subst hn hn'
  change Sem.run P (do pure (goInt (Extern.BytealgCompare.cmp (← Extern.Bytes.bytesOf (.slice (some ⟨b, o, none⟩) l.length c)) (← Extern.Bytes.bytesOf (.slice (some ⟨b', o', none⟩) l'.length c'))))) w = _
  simp only [Extern.Bytes.bytesOf, Sem.run_bind, Sem.run_pure, run_load_row h, run_load_row h', Result.andThen]
  rw [Lib.cmp_eq]
  rfl
set_option maxHeartbeats 2000000 in
set_option maxRecDepth 1000000 in
theorem bcmp_any (b b' : Nat) (l l' : List UInt8) (hl : l.length = 16) (hl' : l'.length = 16) (w : World) (h : RowAt w b 1 l) (h' : RowAt w b' 1 l') :
    Calls Try.prog 61 #[.slice (some ⟨b, 1, none⟩) 16 16, .slice (some ⟨b', 1, none⟩) 16 16] w fun e w' => e = .returned (.int .i64 (Lib.compareBytes l l')) ∧ w' = w := by
  have hrun := run_compare_rows (P := Try.prog) (c := 16) (c' := 16) h h' 16 16 hl hl'
  go_enter Try.func61, Try.ntmps61
  go_wp2
  rw [run_callFunc_extern Try.func65 (by kernel_rfl) (by kernel_rfl) (by kernel_rfl) (e := Extern.BytealgCompare.compare) (by kernel_rfl), hrun]
  simp only [Result.andThen]
  rw [Oper.upon_value]
  go_wp2
  go_ret
  exact ⟨rfl, rfl⟩

/-- Which stands first. -/
def cmpV (v v' : Bool) (l l' : List UInt8) : Int := if v == v' then Lib.compareBytes l l' else if v then 1 else -1
/-- Two boxed addresses. -/
structure Two (w W : World) (v v' : Bool) (l l' : List UInt8) : Prop where
  c0 : W.cell? ⟨w.heap.size, 0, none⟩ = some (.bool v)
  d0 : W.cell? ⟨w.heap.size + 1, 0, none⟩ = some (.bool v')
  r : RowAt W w.heap.size 1 l
  s : RowAt W (w.heap.size + 1) 1 l'
  b : Below w.heap.size w W
theorem Two.made (w : World) (v v' : Bool) (l l' : List UInt8) : Two w ((w.alloc (.cells (addrC v l).toArray 37)).alloc (.cells (addrC v' l').toArray 37)) v v' l l' := by
  have h0 := (ObjAt.made w (addrC v l).toArray 37).alloc (.cells (addrC v' l').toArray 37)
  have h1 := ObjAt.made (w.alloc (.cells (addrC v l).toArray 37)) (addrC v' l').toArray 37
  rw [show (w.alloc (.cells (addrC v l).toArray 37)).heap.size = w.heap.size + 1 by simp] at h1
  have rr : ∀ (m : Bool) (x : List UInt8) (b : Nat) (W : World), ObjAt W b (addrC m x).toArray 37 → RowAt W b 1 x := fun m x b W h i hi => by
    rw [h.cell, List.getElem?_toArray, Nat.add_comm]
    show (Value.bool m :: B8 x)[i + 1]? = _
    rw [List.getElem?_cons_succ]
    unfold B8
    rw [List.getElem?_map, List.getElem?_eq_getElem hi]
    rfl
  exact ⟨h0.cell 0, h1.cell 0, rr _ _ _ _ h0, rr _ _ _ _ h1, ((Below.refl _ _).alloc (Nat.le_refl _) _).alloc (by simp) _⟩

set_option maxRecDepth 100000 in
set_option maxHeartbeats 1000000 in
theorem cmp_any (v v' : Bool) (l l' : List UInt8) (hl : l.length = 16) (hl' : l'.length = 16) (w : World) :
    Calls Try.prog 52 #[.agg (addrC v l).toArray, .agg (addrC v' l').toArray] w fun e w' => e = .returned (.int .i64 (cmpV v v' l l')) ∧ Below w.heap.size w w' := by
  have HT := Lib.hid (Two.made w v v' l l')
  go_enter Try.func52, Try.ntmps52
  go_upto_region 1 with (fail)
  generalize (w.alloc _).alloc _ = W at HT ⊢
  obtain ⟨c0, d0, r, s, b⟩ := HT.out
  have HR := Lib.hid r; have HS := Lib.hid s; have Hb := Lib.hid b
  clear r s b HT
  cases hc : (v == v')
  · cases v <;> cases v' <;> first | (exact absurd hc (by decide)) | skip
    all_goals
      go_wp2
      go_ret
      exact ⟨rfl, Hb.out⟩
  · have hv : v = v' := by simpa using hc
    subst hv
    clear hc
    have hvv : (v == v) = true := by simp
    go_wp2_with fail
    go_quiet ((go_at_call 61; exact Calls.quiet_of_same (bcmp_any _ _ l l' hl hl' _ (HR.out.drewN _) (HS.out.drewN _))))
    go_wp2
    go_ret
    exact ⟨ret_int (by simp [cmpV]), bdrewN Hb.out _⟩

theorem compare_refl : ∀ (l : List UInt8), Lib.compareBytes l l = 0
  | [] => rfl
  | c :: r => by
    have hlt : ¬ c < c := UInt8.lt_irrefl c
    simp [Lib.compareBytes, hlt, compare_refl r]
theorem compare_at {l l' : List UInt8} {k : Nat} (hk : k < l.length) (hk' : k < l'.length) :
    Lib.compareBytes (l.drop k) (l'.drop k) = if l[k] < l'[k] then -1 else if l'[k] < l[k] then 1 else Lib.compareBytes (l.drop (k + 1)) (l'.drop (k + 1)) := by
  rw [List.drop_eq_getElem_cons hk, List.drop_eq_getElem_cons hk', Lib.compareBytes]
theorem u8_lt {a b : UInt8} : a < b ↔ (a.toNat : Int) < (b.toNat : Int) := by
  rw [UInt8.lt_iff_toNat_lt]; omega
/-- What the loop knows. -/
def CmS (l l' : List UInt8) (k : Nat) : Prop := Lib.compareBytes l l' = Lib.compareBytes (l.drop k) (l'.drop k)
theorem CmS.less {l l' : List UInt8} {k : Nat} (h : CmS l l' k) (hk : k < l.length) (hk' : k < l'.length) (hx : ((l[k]).toNat : Int) < ((l'[k]).toNat : Int)) : Lib.compareBytes l l' = -1 := by
  rw [h, compare_at hk hk', if_pos (u8_lt.2 hx)]
theorem CmS.more {l l' : List UInt8} {k : Nat} (h : CmS l l' k) (hk : k < l.length) (hk' : k < l'.length) (hy : ¬ ((l[k]).toNat : Int) < ((l'[k]).toNat : Int)) (hx : ((l'[k]).toNat : Int) < ((l[k]).toNat : Int)) : Lib.compareBytes l l' = 1 := by
  rw [h, compare_at hk hk', if_neg (fun h => hy (u8_lt.1 h)), if_pos (u8_lt.2 hx)]
theorem CmS.same {l l' : List UInt8} {k : Nat} (h : CmS l l' k) (hk : k < l.length) (hk' : k < l'.length) (hy : ¬ ((l[k]).toNat : Int) < ((l'[k]).toNat : Int)) (hx : ¬ ((l'[k]).toNat : Int) < ((l[k]).toNat : Int)) : CmS l l' (k + 1) := by
  unfold CmS; rw [h, compare_at hk hk', if_neg (fun h => hy (u8_lt.1 h)), if_neg (fun h => hx (u8_lt.1 h))]

set_option maxRecDepth 100000 in
set_option maxHeartbeats 2000000 in
theorem rcmp_any' (v v' : Bool) (l l' : List UInt8) (hl : l.length = 16) (hl' : l'.length = 16) (hz : v = v' → v = false → l.drop 4 = l'.drop 4) (w : World) :
    Calls Try.prog 51 #[.agg (addrC v l).toArray, .agg (addrC v' l').toArray] w fun e w' => e = .returned (.int .i64 (cmpV v v' l l')) ∧ Below w.heap.size w w' := by
  have HT := Lib.hid (Two.made w v v' l l')
  obtain ⟨R, hR⟩ : ∃ R, R = cmpV v v' l l' := ⟨_, rfl⟩
  rw [← hR]
  have HQ := Lib.hid hR; clear hR
  go_enter Try.func51, Try.ntmps51
  go_upto_region 1 with (fail)
  generalize (w.alloc _).alloc _ = W at HT ⊢
  obtain ⟨c0, d0, r, s, b⟩ := HT.out
  have HR := Lib.hid r; have HS := Lib.hid s; have Hb := Lib.hid b
  clear r s b HT
  cases hc : (v == v')
  · cases v <;> cases v' <;> first | (exact absurd hc (by decide)) | skip
    all_goals
      go_wp2
      go_ret
      exact ⟨ret_int (by rw [HQ.out]; rfl), Hb.out⟩
  · have hv : v = v' := by simpa using hc
    subst hv
    clear hc
    have HRR : Hid (Lib.compareBytes l l' = R) := Lib.hid (by rw [HQ.out]; simp [cmpV])
    have hN : ∃ N : Nat, N = (if v then 16 else 4) := ⟨_, rfl⟩
    cases v
    · have Hz := Lib.hid (hz rfl rfl); clear hz hN
      go_upto_region 6 with (fail)
      go_loopw [5] (fun vi wr => ∃ k : Nat, k ≤ 4 ∧ vi = .int .i64 (k : Int) ∧ Hid (CmS l l' k) ∧ ∃ d, wr = W.drewN d) (fun vi _ => 16 - (intOf vi).toNat)
      case atStart => exact ⟨0, by omega, rfl, Lib.hid rfl, 0, rfl⟩
      case round =>
        obtain ⟨k, hk, rfl, hq, d, rfl⟩ := hrel
        by_cases hlt : k < 4
        · have hkl : k < l.length := by omega
          have hkl' : k < l'.length := by omega
          have H1 := Lib.hid (hq.out.less hkl hkl')
          have H2 := Lib.hid (hq.out.more hkl hkl')
          have H3 := Lib.hid (hq.out.same hkl hkl')
          have x1 := HR.out k hkl
          have y1 := HS.out k hkl'
          generalize ((l[k]).toNat : Int) = x at H1 H2 H3 x1
          generalize ((l'[k]).toNat : Int) = y at H1 H2 H3 y1
          clear hkl hkl'
          by_cases hxy : x < y
          · have g1 : decide (x < y) = true := by simp [hxy]
            go_wp2_with fail
            go_quiet (fail)
            go_wp2
            go_ret
            exact ⟨ret_int (by rw [← HRR.out]; exact (H1.out hxy).symm), bdrewN (bdrewN Hb.out _) _⟩
          · have g1 : decide (x < y) = false := by simp [hxy]
            by_cases hyx : y < x
            · have g2 : decide (y < x) = true := by simp [hyx]
              have g3 : decide (x > y) = true := by simp [hyx]
              go_wp2_with fail
              go_quiet (fail)
              go_wp2_with fail
              go_quiet (fail)
              go_wp2
              go_ret
              exact ⟨ret_int (by rw [← HRR.out]; exact (H2.out hxy hyx).symm), bdrewN (bdrewN (bdrewN Hb.out _) _) _⟩
            · have g2 : decide (y < x) = false := by simp [hyx]
              have g3 : decide (x > y) = false := by simp [hyx]
              go_wp2_with fail
              go_quiet (fail)
              go_wp2_with fail
              go_quiet (fail)
              go_wp2
              go_roundw
              case rel => exact ⟨k + 1, by omega, by go_num, Lib.hid (H3.out hxy hyx), _, rfl⟩
              case measure => simp [intOf]; omega
        · obtain rfl : k = 4 := by omega
          go_wp2
          go_ret
          exact ⟨ret_int (by rw [← HRR.out, hq.out, Hz.out, compare_refl]), bdrewN Hb.out _⟩
    · clear hz hN
      go_upto_region 6 with (fail)
      go_loopw [5] (fun vi wr => ∃ k : Nat, k ≤ 16 ∧ vi = .int .i64 (k : Int) ∧ Hid (CmS l l' k) ∧ ∃ d, wr = W.drewN d) (fun vi _ => 16 - (intOf vi).toNat)
      case atStart => exact ⟨0, by omega, rfl, Lib.hid rfl, 0, rfl⟩
      case round =>
        obtain ⟨k, hk, rfl, hq, d, rfl⟩ := hrel
        by_cases hlt : k < 16
        · have hkl : k < l.length := by omega
          have hkl' : k < l'.length := by omega
          have H1 := Lib.hid (hq.out.less hkl hkl')
          have H2 := Lib.hid (hq.out.more hkl hkl')
          have H3 := Lib.hid (hq.out.same hkl hkl')
          have x1 := HR.out k hkl
          have y1 := HS.out k hkl'
          generalize ((l[k]).toNat : Int) = x at H1 H2 H3 x1
          generalize ((l'[k]).toNat : Int) = y at H1 H2 H3 y1
          clear hkl hkl'
          by_cases hxy : x < y
          · have g1 : decide (x < y) = true := by simp [hxy]
            go_wp2_with fail
            go_quiet (fail)
            go_wp2
            go_ret
            exact ⟨ret_int (by rw [← HRR.out]; exact (H1.out hxy).symm), bdrewN (bdrewN Hb.out _) _⟩
          · have g1 : decide (x < y) = false := by simp [hxy]
            by_cases hyx : y < x
            · have g2 : decide (y < x) = true := by simp [hyx]
              have g3 : decide (x > y) = true := by simp [hyx]
              go_wp2_with fail
              go_quiet (fail)
              go_wp2_with fail
              go_quiet (fail)
              go_wp2
              go_ret
              exact ⟨ret_int (by rw [← HRR.out]; exact (H2.out hxy hyx).symm), bdrewN (bdrewN (bdrewN Hb.out _) _) _⟩
            · have g2 : decide (y < x) = false := by simp [hyx]
              have g3 : decide (x > y) = false := by simp [hyx]
              go_wp2_with fail
              go_quiet (fail)
              go_wp2_with fail
              go_quiet (fail)
              go_wp2
              go_roundw
              case rel => exact ⟨k + 1, by omega, by go_num, Lib.hid (H3.out hxy hyx), _, rfl⟩
              case measure => simp [intOf]; omega
        · obtain rfl : k = 16 := by omega
          go_wp2
          go_ret
          exact ⟨ret_int (by rw [← HRR.out, hq.out, List.drop_of_length_le (by omega), List.drop_of_length_le (by omega)]; rfl), bdrewN Hb.out _⟩
end Go.Proofs.Ytokpogoblnhihaa
