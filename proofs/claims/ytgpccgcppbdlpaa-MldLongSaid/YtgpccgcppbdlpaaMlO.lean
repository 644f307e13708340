/-
  The walk of the law MldLong.
-/
import Derived.Test.YtgpccgcppbdlpaaMlN
namespace Go.Proofs.Ytgpccgcppbdlpaa
open Go.RowKit
set_option linter.unusedVariables false
set_option linter.unusedSimpArgs false
attribute [local go_sem ↓] ld_addr st_addr bld_addr ld_tk st_tk bld_tk
attribute [local go_sem] ldr_addr str_addr ldr_tk str_tk

/-- What the law asks of the talk of so many, in one. -/
structure LongOk9 (T : TK) (k : Nat) (rep : Bool) : Prop where
  ok : T.ok
  len : T.rcs.length ≤ 100
  many : ∀ W, Calls Try.prog 4 #[.int .i64 k, .bool rep] W fun x w' => ∃ us ur, x = .returned (.agg (tkC T us ur).toArray) ∧ Below W.heap.size W w' ∧ AdsT w' us T.src ∧ RcT w' ur T.rcs
  good : good9 T = decide (k ≤ 64)
  back : ∀ P : List UInt8, P.length % 2 = 0 → 64 < k → readM P (wrtM P T) = (zeroT, 6)
  wlen : ∀ P, (wrtM P T).length ≤ 100000
  wrt : ∀ W us ur, Ads W us T.src → Rcs W ur T.rcs → Calls Try.prog 8 #[.agg (tkC T us ur).toArray, .agg (adC (sixA 254 1)).toArray, .agg (adC (sixA 254 1)).toArray] W fun x w' => x = .returned (.string (Str (wrtM (psM (sixA 254 1) (sixA 254 1) (4 + (restM T).length)) T))) ∧ Below W.heap.size W w'
theorem long_rep9 (k : Nat) (hk : k ≤ 100) : LongOk9 (repT9 k) k true where
  ok := repT9_ok k
  len := by show (List.replicate k _).length ≤ 100; rw [List.length_replicate]; exact hk
  many := fun W => lmany9_rep k hk W
  good := repT9_good k
  back := fun P hP h => long_r9 P hP (repT9 k) rfl rfl (by show 64 < (List.replicate k _).length; rw [List.length_replicate]; exact h) (by show (List.replicate k _).length < 65536; rw [List.length_replicate]; omega)
  wlen := fun P => wrtM_rep_le P k hk
  wrt := fun W us ur hs hr => rwrite9_22 (sixA 254 1) (sixA 254 1) (sixA_ok _ _) (sixA_ok _ _) rfl (repT9 k) us ur W zeroA_ok _ rfl hr rfl rfl (by show (List.replicate k _).length ≤ 100; rw [List.length_replicate]; exact hk) (fun r h => by obtain ⟨_, rfl⟩ := List.mem_replicate.1 h; simp)
theorem long_qry9 (k : Nat) (hk : k ≤ 100) : LongOk9 (qryT9 k) k false where
  ok := qryT9_ok k
  len := by simp [qryT9]
  many := fun W => lmany9_qry k hk W
  good := qryT9_good k
  back := fun P hP h => long_q9 P hP (qryT9 k) (qryT9_ok k) rfl rfl grp_gA9 (by show 64 < ((List.range k).map srcA9).length; simp; exact h) (by show ((List.range k).map srcA9).length < 65536; simp; omega)
  wlen := fun P => wrtM_qry_le P k hk
  wrt := fun W us ur hs hr => rwrite9_21 (sixA 254 1) (sixA 254 1) (sixA_ok _ _) (sixA_ok _ _) rfl (qryT9 k) us ur W gA9_ok _ rfl hs rfl rfl (by simp [qryT9]) (by simp [qryT9]) (by show ((List.range k).map srcA9).length ≤ 100; simp; exact hk)
/-- The talk and the address boxed. -/
structure LS (w W : World) (m p : Nat) (t : TK) (u r : Value) : Prop where
  tk : TkAt W m t u r
  ad : ObjAt W p (adC (sixA 254 1)).toArray 24
  src : AdsT W u t.src
  rcs : RcT W r t.rcs
  blw : Below w.heap.size w W
  l1 : w.heap.size ≤ m
  l2 : m < p
theorem LS.below {w W W' : World} {m p : Nat} {t : TK} {u r : Value} (h : LS w W m p t u r) (hb : Below W.heap.size W W') : LS w W' m p t u r := ⟨h.tk.below hb, h.ad.below hb h.ad.lt, h.src.below hb, h.rcs.below hb, bstep h.blw hb, h.l1, h.l2⟩
theorem LS.s {w W : World} {m p : Nat} {t : TK} {u r : Value} (h : LS w W m p t u r) : row? W m 0 26 = some (tkC t u r) ∧ row? W p 0 17 = some (adC (sixA 254 1)) := ⟨h.tk.row, obj_rowk (A := []) (M := adC (sixA 254 1)) (C := []) (by simpa using h.ad) rfl rfl⟩
theorem LS.start {w W : World} {t : TK} {u r : Value} (hb : Below w.heap.size w W) (ho : adOk t.g) (hs : AdsT W u t.src) (hr : RcT W r t.rcs) : LS w (aggW (aggW ((W.alloc (.cells #[.bool false, .int .i64 0, .int .i64 0, .int .i64 0, .bool false, .int .u8 0, .int .u8 0, .int .u8 0, .int .u8 0, .int .u8 0, .int .u8 0, .int .u8 0, .int .u8 0, .int .u8 0, .int .u8 0, .int .u8 0, .int .u8 0, .int .u8 0, .int .u8 0, .int .u8 0, .int .u8 0, .bool false, .int .i64 0, .int .i64 0, .slice none 0 0, .slice none 0 0] 28)).alloc (.cells #[.bool false, .int .u8 0, .int .u8 0, .int .u8 0, .int .u8 0, .int .u8 0, .int .u8 0, .int .u8 0, .int .u8 0, .int .u8 0, .int .u8 0, .int .u8 0, .int .u8 0, .int .u8 0, .int .u8 0, .int .u8 0, .int .u8 0] 24)) W.heap.size (tkC t u r)) (W.heap.size + 1) (adC (sixA 254 1))) W.heap.size (W.heap.size + 1) t u r ∧
    free? ((W.alloc (.cells #[.bool false, .int .i64 0, .int .i64 0, .int .i64 0, .bool false, .int .u8 0, .int .u8 0, .int .u8 0, .int .u8 0, .int .u8 0, .int .u8 0, .int .u8 0, .int .u8 0, .int .u8 0, .int .u8 0, .int .u8 0, .int .u8 0, .int .u8 0, .int .u8 0, .int .u8 0, .int .u8 0, .bool false, .int .i64 0, .int .i64 0, .slice none 0 0, .slice none 0 0] 28)).alloc (.cells #[.bool false, .int .u8 0, .int .u8 0, .int .u8 0, .int .u8 0, .int .u8 0, .int .u8 0, .int .u8 0, .int .u8 0, .int .u8 0, .int .u8 0, .int .u8 0, .int .u8 0, .int .u8 0, .int .u8 0, .int .u8 0, .int .u8 0] 24)) W.heap.size 0 26 = true ∧ free? (aggW ((W.alloc (.cells #[.bool false, .int .i64 0, .int .i64 0, .int .i64 0, .bool false, .int .u8 0, .int .u8 0, .int .u8 0, .int .u8 0, .int .u8 0, .int .u8 0, .int .u8 0, .int .u8 0, .int .u8 0, .int .u8 0, .int .u8 0, .int .u8 0, .int .u8 0, .int .u8 0, .int .u8 0, .int .u8 0, .bool false, .int .i64 0, .int .i64 0, .slice none 0 0, .slice none 0 0] 28)).alloc (.cells #[.bool false, .int .u8 0, .int .u8 0, .int .u8 0, .int .u8 0, .int .u8 0, .int .u8 0, .int .u8 0, .int .u8 0, .int .u8 0, .int .u8 0, .int .u8 0, .int .u8 0, .int .u8 0, .int .u8 0, .int .u8 0, .int .u8 0] 24)) W.heap.size (tkC t u r)) (W.heap.size + 1) 0 17 = true := by
  have s1 : (W.alloc (.cells #[.bool false, .int .i64 0, .int .i64 0, .int .i64 0, .bool false, .int .u8 0, .int .u8 0, .int .u8 0, .int .u8 0, .int .u8 0, .int .u8 0, .int .u8 0, .int .u8 0, .int .u8 0, .int .u8 0, .int .u8 0, .int .u8 0, .int .u8 0, .int .u8 0, .int .u8 0, .int .u8 0, .bool false, .int .i64 0, .int .i64 0, .slice none 0 0, .slice none 0 0] 28)).heap.size = W.heap.size + 1 := by simp
  have m0 := (ObjAt.made W #[.bool false, .int .i64 0, .int .i64 0, .int .i64 0, .bool false, .int .u8 0, .int .u8 0, .int .u8 0, .int .u8 0, .int .u8 0, .int .u8 0, .int .u8 0, .int .u8 0, .int .u8 0, .int .u8 0, .int .u8 0, .int .u8 0, .int .u8 0, .int .u8 0, .int .u8 0, .int .u8 0, .bool false, .int .i64 0, .int .i64 0, .slice none 0 0, .slice none 0 0] 28).alloc (.cells #[.bool false, .int .u8 0, .int .u8 0, .int .u8 0, .int .u8 0, .int .u8 0, .int .u8 0, .int .u8 0, .int .u8 0, .int .u8 0, .int .u8 0, .int .u8 0, .int .u8 0, .int .u8 0, .int .u8 0, .int .u8 0, .int .u8 0] 24)
  have p0 := ObjAt.made (W.alloc (.cells #[.bool false, .int .i64 0, .int .i64 0, .int .i64 0, .bool false, .int .u8 0, .int .u8 0, .int .u8 0, .int .u8 0, .int .u8 0, .int .u8 0, .int .u8 0, .int .u8 0, .int .u8 0, .int .u8 0, .int .u8 0, .int .u8 0, .int .u8 0, .int .u8 0, .int .u8 0, .int .u8 0, .bool false, .int .i64 0, .int .i64 0, .slice none 0 0, .slice none 0 0] 28)) #[.bool false, .int .u8 0, .int .u8 0, .int .u8 0, .int .u8 0, .int .u8 0, .int .u8 0, .int .u8 0, .int .u8 0, .int .u8 0, .int .u8 0, .int .u8 0, .int .u8 0, .int .u8 0, .int .u8 0, .int .u8 0, .int .u8 0] 24
  rw [s1] at p0
  have m1 := aggW_obj (L := (#[.bool false, .int .i64 0, .int .i64 0, .int .i64 0, .bool false, .int .u8 0, .int .u8 0, .int .u8 0, .int .u8 0, .int .u8 0, .int .u8 0, .int .u8 0, .int .u8 0, .int .u8 0, .int .u8 0, .int .u8 0, .int .u8 0, .int .u8 0, .int .u8 0, .int .u8 0, .int .u8 0, .bool false, .int .i64 0, .int .i64 0, .slice none 0 0, .slice none 0 0] : Array Value).toList) (cs := tkC t u r) (by simpa using m0) (by rw [tkC_length ho]; rfl) (tkC_one hs.1.one hr.rcs.one)
  have p1 := aggW_other p0 (tkC t u r) (show W.heap.size + 1 ≠ W.heap.size by omega)
  have p2 := aggW_obj (L := (#[.bool false, .int .u8 0, .int .u8 0, .int .u8 0, .int .u8 0, .int .u8 0, .int .u8 0, .int .u8 0, .int .u8 0, .int .u8 0, .int .u8 0, .int .u8 0, .int .u8 0, .int .u8 0, .int .u8 0, .int .u8 0, .int .u8 0] : Array Value).toList) (cs := adC (sixA 254 1)) (by simpa using p1) rfl (addrC_one _ _)
  have kb : Below W.heap.size W (aggW (aggW ((W.alloc (.cells #[.bool false, .int .i64 0, .int .i64 0, .int .i64 0, .bool false, .int .u8 0, .int .u8 0, .int .u8 0, .int .u8 0, .int .u8 0, .int .u8 0, .int .u8 0, .int .u8 0, .int .u8 0, .int .u8 0, .int .u8 0, .int .u8 0, .int .u8 0, .int .u8 0, .int .u8 0, .int .u8 0, .bool false, .int .i64 0, .int .i64 0, .slice none 0 0, .slice none 0 0] 28)).alloc (.cells #[.bool false, .int .u8 0, .int .u8 0, .int .u8 0, .int .u8 0, .int .u8 0, .int .u8 0, .int .u8 0, .int .u8 0, .int .u8 0, .int .u8 0, .int .u8 0, .int .u8 0, .int .u8 0, .int .u8 0, .int .u8 0, .int .u8 0] 24)) W.heap.size (tkC t u r)) (W.heap.size + 1) (adC (sixA 254 1))) := aggW_below (aggW_below (((Below.refl _ _).alloc (Nat.le_refl _) _).alloc (by simp) _) (Nat.le_refl _) _) (by omega) _
  exact ⟨⟨⟨aggW_other m1 _ (by omega), ho⟩, p2, hs.below kb, hr.below kb, bstep hb kb, hb.size, by omega⟩, obj_free m0 (by simp), obj_free p1 (by simp)⟩
def LA (w W : World) (m p : Nat) (t : TK) (u r : Value) (m2 : Nat) : Prop := LS w W m p t u r ∧ ObjAt W m2 #[.bool false, .int .i64 0, .int .i64 0, .int .i64 0, .bool false, .int .u8 0, .int .u8 0, .int .u8 0, .int .u8 0, .int .u8 0, .int .u8 0, .int .u8 0, .int .u8 0, .int .u8 0, .int .u8 0, .int .u8 0, .int .u8 0, .int .u8 0, .int .u8 0, .int .u8 0, .int .u8 0, .bool false, .int .i64 0, .int .i64 0, .slice none 0 0, .slice none 0 0] 28 ∧ p < m2
theorem LS.mkb {w W : World} {m p : Nat} {t : TK} {u r : Value} (h : LS w W m p t u r) : LA w (W.alloc (.cells #[.bool false, .int .i64 0, .int .i64 0, .int .i64 0, .bool false, .int .u8 0, .int .u8 0, .int .u8 0, .int .u8 0, .int .u8 0, .int .u8 0, .int .u8 0, .int .u8 0, .int .u8 0, .int .u8 0, .int .u8 0, .int .u8 0, .int .u8 0, .int .u8 0, .int .u8 0, .int .u8 0, .bool false, .int .i64 0, .int .i64 0, .slice none 0 0, .slice none 0 0] 28)) m p t u r W.heap.size := ⟨h.below (bal _ _), ObjAt.made W _ _, h.ad.lt⟩
theorem LA.below {w W W' : World} {m p m2 : Nat} {t : TK} {u r : Value} (h : LA w W m p t u r m2) (hb : Below W.heap.size W W') : LA w W' m p t u r m2 := ⟨h.1.below hb, h.2.1.below hb h.2.1.lt, h.2.2⟩
theorem LA.free {w W : World} {m p m2 : Nat} {t : TK} {u r : Value} (h : LA w W m p t u r m2) : free? W m2 0 26 = true := obj_free h.2.1 (by simp)
theorem LA.put {w W : World} {m p m2 : Nat} {t t' : TK} {u r u' r' : Value} (h : LA w W m p t u r m2) (ho : adOk t'.g) (hs : AdsT W u' t'.src) (hr : RcT W r' t'.rcs) : TM w (aggW W m2 (tkC t' u' r')) m2 t' u' r' ∧ LS w (aggW W m2 (tkC t' u' r')) m p t u r := by
  obtain ⟨h1, h2, h3⟩ := h
  have l1 := h1.l1; have l2 := h1.l2
  have hgr := aggW_grown W m2 (tkC t' u' r')
  refine ⟨⟨⟨aggW_obj (L := (#[.bool false, .int .i64 0, .int .i64 0, .int .i64 0, .bool false, .int .u8 0, .int .u8 0, .int .u8 0, .int .u8 0, .int .u8 0, .int .u8 0, .int .u8 0, .int .u8 0, .int .u8 0, .int .u8 0, .int .u8 0, .int .u8 0, .int .u8 0, .int .u8 0, .int .u8 0, .int .u8 0, .bool false, .int .i64 0, .int .i64 0, .slice none 0 0, .slice none 0 0] : Array Value).toList) (by simpa using h2) (by rw [tkC_length ho]; rfl) (tkC_one hs.1.one hr.rcs.one), ho⟩, (hs.grown h2 hgr).1, (hr.grown h2 hgr).rcs, aggW_below h1.blw (by omega) _, by omega⟩, ?_⟩
  exact ⟨⟨aggW_other h1.tk.1 _ (by omega), h1.tk.2⟩, aggW_other h1.ad _ (by omega), h1.src.grown h2 hgr, h1.rcs.grown h2 hgr, aggW_below h1.blw (by omega) _, l1, l2⟩

set_option maxRecDepth 100000 in
set_option maxHeartbeats 4000000 in
theorem mlong_core (n : Nat) (hn : n < 256) (T : TK) (rep : Bool) (h : LongOk9 T (55 + n % 20) rep) (w : World) : Calls Try.prog 3 #[.int .u8 n, .bool rep] w fun x w' => x = .returned (.bool true) ∧ Below w.heap.size w w' := by
  obtain ⟨k, hk⟩ : ∃ k, k = 55 + n % 20 := ⟨_, rfl⟩
  rw [← hk] at h
  obtain ⟨r0, hr⟩ : ∃ r, r = n % 20 := ⟨_, rfl⟩
  have t1 : (n : Int).tmod 20 = (r0 : Int) := by rw [hr]; rfl
  have t2 : (n : Int) % 20 = (r0 : Int) := by rw [hr]; rfl
  have y1 : IntKind.i64.wrap (r0 : Int) = (r0 : Int) := by simp only [IntKind.wrap_i64]; omega
  have y2 : IntKind.i64.wrap (55 + (r0 : Int)) = 55 + (r0 : Int) := by simp only [IntKind.wrap_i64]; omega
  have y3 : IntKind.u8.wrap (r0 : Int) = (r0 : Int) := by simp only [IntKind.wrap_u8]; omega
  have e5 : (55 : Int) + (r0 : Int) = (k : Int) := by omega
  have hkb : k ≤ 74 := by omega
  have HOT := Lib.hid h.ok.1
  have HM := Lib.hid h.many
  have HSX : Hid (∀ W, Calls Try.prog 5 #[.int .u8 254, .int .u8 1] W fun x w' => x = .returned (.agg (adC (sixA 254 1)).toArray) ∧ Below W.heap.size W w') := Lib.hid fun W => lsix_any 254 1 W
  have HWR := Lib.hid h.wrt
  have HWP := Lib.hid (fun W u r (h' : FN9 W T u r) => write9_any (sixA 254 1) (sixA 254 1) (sixA_ok _ _) (sixA_ok _ _) T u r W h.ok h'.1 h'.2 (by have := h.len; omega))
  obtain ⟨S, hS⟩ : ∃ S, S = wrtM (psM (sixA 254 1) (sixA 254 1) (4 + (restM T).length)) T := ⟨_, rfl⟩
  obtain ⟨c, hc⟩ : ∃ c, c = wr9E (sixA 254 1) (sixA 254 1) T := ⟨_, rfl⟩
  rw [← hc] at HWP
  generalize wr9 (sixA 254 1) (sixA 254 1) T = SQ9 at HWP
  have hSl : S.length ≤ 100000 := by rw [hS]; exact h.wlen _
  have hSn : S.length = 4 + (restM T).length := by rw [hS]; exact wrtM_length _ _
  have HRD := Lib.hid (fun W => read9_any (sixA 254 1) (sixA 254 1) (sixA_ok _ _) (sixA_ok _ _) S hSl W)
  unfold ReadV at HRD
  have hPl : (psM (sixA 254 1) (sixA 254 1) (4 + (restM T).length)).length % 2 = 0 := by rw [psM_length (sixA_ok _ _) (sixA_ok _ _)]
  have hrd : rd9 (sixA 254 1) (sixA 254 1) S = readM (psM (sixA 254 1) (sixA 254 1) (4 + (restM T).length)) (wrtM (psM (sixA 254 1) (sixA 254 1) (4 + (restM T).length)) T) := by
    unfold rd9
    rw [if_pos (by rfl), hSn, hS]
  rw [hrd] at HRD
  have HGT : Hid (k ≤ 64 → c = 0 ∧ readM (psM (sixA 254 1) (sixA 254 1) (4 + (restM T).length)) (wrtM (psM (sixA 254 1) (sixA 254 1) (4 + (restM T).length)) T) = (T, 0)) := Lib.hid fun hle => by
    have hg : good9 T = true := by rw [h.good, decide_eq_true hle]
    exact ⟨by rw [hc]; unfold wr9E; rw [if_pos (by rfl), if_pos hg], read_wrtM _ hPl T h.ok hg⟩
  have HGF : Hid (64 < k → c = 2 ∧ readM (psM (sixA 254 1) (sixA 254 1) (4 + (restM T).length)) (wrtM (psM (sixA 254 1) (sixA 254 1) (4 + (restM T).length)) T) = (zeroT, 6)) := Lib.hid fun hle => by
    have hg : good9 T = false := by rw [h.good, decide_eq_false (by omega)]
    exact ⟨by rw [hc]; unfold wr9E; rw [if_pos (by rfl), if_neg (by rw [hg]; simp)], h.back _ hPl hle⟩
  rw [← hS] at HWR
  generalize readM (psM (sixA 254 1) (sixA 254 1) (4 + (restM T).length)) (wrtM (psM (sixA 254 1) (sixA 254 1) (4 + (restM T).length)) T) = RE at HRD HGT HGF
  obtain ⟨R, E⟩ := RE
  simp only [Prod.mk.injEq] at HGT HGF
  simp only at HRD
  have HRG : Hid (k ≤ 64 ∨ 64 < k) := Lib.hid (by omega)
  have HOR : Hid (adOk R.g) := Lib.hid (by
    rcases HRG.out with h1 | h1
    · rw [(HGT.out h1).2.1]; exact HOT.out
    · rw [(HGF.out h1).2.1]; exact zeroA_ok)
  have HL := Lib.hid (fun W => lives9_any W)
  have HS := Lib.hid (fun W ca cb (h1 : Tks W ca T) (h2 : Tks W cb T) => same_any ca cb T T W h1 h2)
  have HSZ := Lib.hid (fun W ca cb (h1 : Tks W ca zeroT) (h2 : Tks W cb zeroT) => same_any ca cb zeroT zeroT W h1 h2)
  rw [decide_eq_true rfl] at HS HSZ
  have hfm := hfm26
  have hbz := bldr_tk0
  have hfa : fok (adC (sixA 254 1)).toArray 17 = true := fok_addr true _ (sixA_ok _ _)
  have HST := Lib.hid (fun (W : World) (u r : Value) (hb : Below w.heap.size w W) (hs : AdsT W u T.src) (hr : RcT W r T.rcs) => LS.start hb HOT.out hs hr)
  have HLS := Lib.hid (fun (W : World) (m p : Nat) (u r : Value) (h : LS w W m p T u r) => h.s)
  clear h hc hS hSl hSn hPl hrd hr hk
  generalize Str S = SS at *
  generalize Str SQ9 = SSQ9 at *
  go_enter Try.func3, Try.ntmps3
  go_upto_region 3 with (first
    | (go_at_call 4; (with_reducible refine (HM.out _).mono ?_); rintro x v1 ⟨u, r, rfl, hb1, hs1, hr1⟩; have hft := fok_tk HOT.out hs1.1.one hr1.rcs.one; have HV := Lib.hid (And.intro hb1 (And.intro hs1 hr1)); clear hb1 hs1 hr1)
    | (go_at_call 5; (with_reducible refine (HSX.out _).mono ?_); rintro x v2 ⟨rfl, hb2⟩; obtain ⟨q1, q2, q3⟩ := HST.out v2 u r (bstep HV.out.1 hb2) (HV.out.2.1.below hb2) (HV.out.2.2.below hb2); have HB1 := Lib.hid q1; clear hb2 q1))
  generalize aggW (aggW ((v2.alloc (.cells #[.bool false, .int .i64 0, .int .i64 0, .int .i64 0, .bool false, .int .u8 0, .int .u8 0, .int .u8 0, .int .u8 0, .int .u8 0, .int .u8 0, .int .u8 0, .int .u8 0, .int .u8 0, .int .u8 0, .int .u8 0, .int .u8 0, .int .u8 0, .int .u8 0, .int .u8 0, .int .u8 0, .bool false, .int .i64 0, .int .i64 0, .slice none 0 0, .slice none 0 0] 28)).alloc (.cells #[.bool false, .int .u8 0, .int .u8 0, .int .u8 0, .int .u8 0, .int .u8 0, .int .u8 0, .int .u8 0, .int .u8 0, .int .u8 0, .int .u8 0, .int .u8 0, .int .u8 0, .int .u8 0, .int .u8 0, .int .u8 0, .int .u8 0] 24)) v2.heap.size _) _ _ = W1 at HB1 ⊢
  clear q2 q3 hft HST
  generalize v2.heap.size + 1 = p at HB1 ⊢
  generalize v2.heap.size = m at HB1 ⊢
  have HWV := Lib.hid (fun W (h : LS w W m p T u r) => HWR.out W u r h.src.1 h.rcs.rcs)
  have HK : Hid (∀ W, LS w W m p T u r → row? W m 0 26 = some (tkC T u r) ∧ row? W p 0 17 = some (adC (sixA 254 1)) ∧ LS w W m p T u r) := Lib.hid fun W h => ⟨h.s.1, h.s.2, h⟩
  obtain ⟨A, hA⟩ : ∃ A, A = adC (sixA 254 1) := ⟨_, rfl⟩
  have HAE := Lib.hid hA
  rw [← hA] at HK HWV HWP HRD HLS hfa ⊢
  clear hA HWR HV
  go_region_held3 (fun W => row? W m 0 26 = some (tkC T u r) ∧ row? W p 0 17 = some A ∧ LS w W m p T u r) (first | assumption | exact HK.out _ HB1.out | exact HK.out _ (HB1.out.below (bdrewN (Below.refl _ _) 1))) (first
    | (go_at_call 4; (with_reducible refine (HM.out _).mono ?_); rintro x w3 ⟨u9, r9, rfl, hb3, hs9, hr9⟩; have hk := HK.out _ (LS.below (And.right (And.right (by assumption))) hb3); have HN := Lib.hid (show FN9 w3 T u9 r9 from ⟨hs9.1, hr9.rcs⟩); clear hs9 hr9 hb3)
    | (go_at_call 6; (with_reducible refine (HWP.out _ _ _ HN.out).mono ?_); rintro x w3 ⟨rfl, hb3⟩; have hk := HK.out _ (LS.below (And.right (And.right (by assumption))) hb3); clear hb3))
  have HB3 := Lib.hid hk.2.2
  clear hk HM HWP
  go_upto_region 4 with (fail)
  go_cut [10, 11] from 39 (fun q1 q2 wr => ∃ m2 u7 r7, q1 = .pointer (some ⟨m2, 0, none⟩) ∧ q2 = .int .i64 E ∧ TM w wr m2 R u7 r7 ∧ LS w wr m p T u r)
  case first =>
    refine wp_region_held_drew (S := fun W => row? W m 0 26 = some (tkC T u r) ∧ row? W p 0 17 = some A) (by kernel_rfl) (HLS.out _ m p u r (HB3.out.below (show Below _ _ (World.drew _) from ⟨rfl, rfl, rfl, Nat.le_refl _, fun _ _ => rfl⟩))) (fun hHeld => ?_)
    have Hq := Lib.hid (HB3.out.below (show Below _ _ (World.drew _) from ⟨rfl, rfl, rfl, Nat.le_refl _, fun _ _ => rfl⟩))
    generalize World.drew _ = wq at Hq hHeld ⊢
    refine wpAnyH_take (i := 0) (oi := { dst := some 30, op := _, type := _, pos := _, after := _, guard := _ }) (v := ?v1) rfl (by kernel_rfl) (by kernel_rfl) (by kernel_rfl) (fun _ _ _ h => h) (Or.inl ⟨by rfl, ?y1⟩) (by assumption) ?r1
    case y1 => (intro w hSw; go_simp; try with_reducible rfl)
    try simp only [Act.put, List.setIfInBounds_toArray, List.set_cons_zero, List.set_cons_succ]
    refine wpAnyH_take (i := 1) (oi := { dst := some 31, op := _, type := _, pos := _, after := _, guard := _ }) (v := ?v2) rfl (by kernel_rfl) (by kernel_rfl) (by kernel_rfl) (fun _ _ _ h => h) (Or.inl ⟨by rfl, ?y2⟩) (by assumption) ?r2
    case y2 => (intro w hSw; go_simp; try with_reducible rfl)
    try simp only [Act.put, List.setIfInBounds_toArray, List.set_cons_zero, List.set_cons_succ]
    refine wpAnyH_take (i := 2) (oi := { dst := some 32, op := _, type := _, pos := _, after := _, guard := _ }) (v := ?v3) rfl (by kernel_rfl) (by kernel_rfl) (by kernel_rfl) (fun _ _ _ h => h) (Or.inl ⟨by rfl, ?y3⟩) (by assumption) ?r3
    case y3 => (intro w hSw; go_simp; try with_reducible rfl)
    try simp only [Act.put, List.setIfInBounds_toArray, List.set_cons_zero, List.set_cons_succ]
    refine wpAnyH_take (i := 4) (oi := { dst := some 34, op := _, type := _, pos := _, after := _, guard := _ }) (v := ?v4) rfl (by kernel_rfl) (by kernel_rfl) (by kernel_rfl) (fun _ _ _ h => h) (Or.inl ⟨by rfl, ?y4⟩) (by assumption) ?r4
    case y4 => (intro w hSw; go_simp; try with_reducible rfl)
    try simp only [Act.put, List.setIfInBounds_toArray, List.set_cons_zero, List.set_cons_succ]
    refine wpAnyH_take (i := 5) (oi := { dst := some 35, op := _, type := _, pos := _, after := _, guard := _ }) (v := ?v5) rfl (by kernel_rfl) (by kernel_rfl) (by kernel_rfl) (fun _ _ _ h => h) (Or.inl ⟨by rfl, ?y5⟩) (by assumption) ?r5
    case y5 => (intro w hSw; go_simp; try with_reducible rfl)
    try simp only [Act.put, List.setIfInBounds_toArray, List.set_cons_zero, List.set_cons_succ]
    refine wpAnyH_ready (rs := [3, 10]) (by kernel_rfl) (by simp) (AllReadyH.cons (o := _) rfl (fun K hK => ?_) (AllReadyH.cons (o := _) rfl (fun K hK => ?_) AllReadyH.nil))
    · go_simp
      (go_at_call 8; (with_reducible refine (HWV.out _ Hq.out).mono ?_); rintro x w1 ⟨rfl, hb1⟩; have H1 := Lib.hid (Hq.out.below hb1); clear hb1)
      try go_wp2_with fail
      refine hK.out _ _ (HLS.out _ m p u r H1.out) (fun hHeld => ?_)
      clear hK K
      try simp only [Act.put, List.setIfInBounds_toArray, List.set_cons_zero, List.set_cons_succ]
      refine wpAnyH_ready (rs := [6, 10]) (by kernel_rfl) (by simp) (AllReadyH.cons (o := _) rfl (fun K hK => ?_) (AllReadyH.cons (o := _) rfl (fun K hK => ?_) AllReadyH.nil))
      · go_simp
        (go_at_call 7; (with_reducible refine (HRD.out _).mono ?_); rintro x w2 ⟨u7, r7, rfl, hb2, _, hs2, hr2⟩; have hft := fok_tk HOR.out hs2.1.one hr2.rcs.one; have H2 := Lib.hid (H1.out.below hb2); have HF := Lib.hid (show AdsT w2 u7 R.src ∧ RcT w2 r7 R.rcs from ⟨hs2, hr2⟩); clear hb2 hs2 hr2)
        try go_wp2_with fail
        refine hK.out _ _ (HLS.out _ m p u r H2.out) (fun hHeld => ?_)
        clear hK K
        try simp only [Act.put, List.setIfInBounds_toArray, List.set_cons_zero, List.set_cons_succ]
        refine wpAnyH_take (i := 7) (oi := { dst := some 29, op := _, type := _, pos := _, after := _, guard := _ }) (v := ?v6) rfl (by kernel_rfl) (by kernel_rfl) (by kernel_rfl) (fun _ _ _ h => h) (Or.inl ⟨by rfl, ?y6⟩) (by assumption) ?r6
        case y6 => (intro w hSw; go_simp; try with_reducible rfl)
        try simp only [Act.put, List.setIfInBounds_toArray, List.set_cons_zero, List.set_cons_succ]
        refine wpAnyH_take (i := 8) (oi := { dst := some 37, op := _, type := _, pos := _, after := _, guard := _ }) (v := ?v7) rfl (by kernel_rfl) (by kernel_rfl) (by kernel_rfl) (fun _ _ _ h => h) (Or.inl ⟨by rfl, ?y7⟩) (by assumption) ?r7
        case y7 => (intro w hSw; go_simp; try with_reducible rfl)
        try simp only [Act.put, List.setIfInBounds_toArray, List.set_cons_zero, List.set_cons_succ]
        refine wpAnyH_take (i := 9) (oi := { dst := some 38, op := _, type := _, pos := _, after := _, guard := _ }) (v := ?v8) rfl (by kernel_rfl) (by kernel_rfl) (by kernel_rfl) (fun _ _ _ h => h) (Or.inl ⟨by rfl, ?y8⟩) (by assumption) ?r8
        case y8 => (intro w hSw; go_simp; try with_reducible rfl)
        try simp only [Act.put, List.setIfInBounds_toArray, List.set_cons_zero, List.set_cons_succ]
        refine wpAnyH_ready (rs := [10]) (by kernel_rfl) (by simp) (AllReadyH.cons (o := _) rfl (fun K hK => ?_) AllReadyH.nil)
        go_simp
        refine hK.out _ _ (HLS.out _ m p u r H2.out.mkb.1) (fun hHeld => ?_)
        clear hK K
        try simp only [Act.put, List.setIfInBounds_toArray, List.set_cons_zero, List.set_cons_succ]
        have HA := Lib.hid H2.out.mkb
        have HFA := Lib.hid (show AdsT (w2.alloc (.cells #[.bool false, .int .i64 0, .int .i64 0, .int .i64 0, .bool false, .int .u8 0, .int .u8 0, .int .u8 0, .int .u8 0, .int .u8 0, .int .u8 0, .int .u8 0, .int .u8 0, .int .u8 0, .int .u8 0, .int .u8 0, .int .u8 0, .int .u8 0, .int .u8 0, .int .u8 0, .int .u8 0, .bool false, .int .i64 0, .int .i64 0, .slice none 0 0, .slice none 0 0] 28)) u7 R.src ∧ RcT (w2.alloc (.cells #[.bool false, .int .i64 0, .int .i64 0, .int .i64 0, .bool false, .int .u8 0, .int .u8 0, .int .u8 0, .int .u8 0, .int .u8 0, .int .u8 0, .int .u8 0, .int .u8 0, .int .u8 0, .int .u8 0, .int .u8 0, .int .u8 0, .int .u8 0, .int .u8 0, .int .u8 0, .int .u8 0, .bool false, .int .i64 0, .int .i64 0, .slice none 0 0, .slice none 0 0] 28)) r7 R.rcs from ⟨HF.out.1.below (bal w2 _), HF.out.2.below (bal w2 _)⟩)
        generalize w2.alloc (.cells #[.bool false, .int .i64 0, .int .i64 0, .int .i64 0, .bool false, .int .u8 0, .int .u8 0, .int .u8 0, .int .u8 0, .int .u8 0, .int .u8 0, .int .u8 0, .int .u8 0, .int .u8 0, .int .u8 0, .int .u8 0, .int .u8 0, .int .u8 0, .int .u8 0, .int .u8 0, .int .u8 0, .bool false, .int .i64 0, .int .i64 0, .slice none 0 0, .slice none 0 0] 28) = WA at HA HFA hHeld ⊢
        generalize w2.heap.size = m2 at HA ⊢
        have HAz := Lib.hid HA.out.1
        have hfr := HA.out.free
        refine wpAnyH_ready (rs := [11]) (by kernel_rfl) (by simp) (AllReadyH.cons (o := _) rfl (fun K hK => ?_) AllReadyH.nil)
        go_simp
        refine hK.out _ _ (HLS.out _ m p u r (HA.out.put HOR.out HFA.out.1 HFA.out.2).2) (fun hHeld => ?_)
        clear hK K
        try simp only [Act.put, List.setIfInBounds_toArray, List.set_cons_zero, List.set_cons_succ]
        have Hz := Lib.hid (HA.out.put HOR.out HFA.out.1 HFA.out.2)
        generalize aggW WA m2 _ = Wz9 at Hz hHeld ⊢
        refine wpAnyH_take (i := 12) (oi := { dst := some 11, op := _, type := _, pos := _, after := _, guard := _ }) (v := ?v9) rfl (by kernel_rfl) (by kernel_rfl) (by kernel_rfl) (fun _ _ _ h => h) (Or.inl ⟨by rfl, ?y9⟩) (by assumption) ?r9
        case y9 => (intro w hSw; go_simp; try with_reducible rfl)
        try simp only [Act.put, List.setIfInBounds_toArray, List.set_cons_zero, List.set_cons_succ]
        refine wpAnyH_done (by kernel_rfl) ?_ _
        go_wp2_with fail
        go_meet
        case rel => exact ⟨m2, u7, r7, rfl, rfl, Hz.out⟩
      · go_simp
        refine hK.out _ _ (HLS.out _ m p u r H1.out.mkb.1) (fun hHeld => ?_)
        clear hK K
        try simp only [Act.put, List.setIfInBounds_toArray, List.set_cons_zero, List.set_cons_succ]
        have HA := Lib.hid H1.out.mkb
        generalize w1.alloc (.cells #[.bool false, .int .i64 0, .int .i64 0, .int .i64 0, .bool false, .int .u8 0, .int .u8 0, .int .u8 0, .int .u8 0, .int .u8 0, .int .u8 0, .int .u8 0, .int .u8 0, .int .u8 0, .int .u8 0, .int .u8 0, .int .u8 0, .int .u8 0, .int .u8 0, .int .u8 0, .int .u8 0, .bool false, .int .i64 0, .int .i64 0, .slice none 0 0, .slice none 0 0] 28) = WA at HA hHeld ⊢
        generalize w1.heap.size = m2 at HA ⊢
        have HAz := Lib.hid HA.out.1
        refine wpAnyH_ready (rs := [6]) (by kernel_rfl) (by simp) (AllReadyH.cons (o := _) rfl (fun K hK => ?_) AllReadyH.nil)
        go_simp
        (go_at_call 7; (with_reducible refine (HRD.out _).mono ?_); rintro x w2 ⟨u7, r7, rfl, hb2, _, hs2, hr2⟩; have hft := fok_tk HOR.out hs2.1.one hr2.rcs.one; have H2 := Lib.hid (HA.out.below hb2); have HF := Lib.hid (show AdsT w2 u7 R.src ∧ RcT w2 r7 R.rcs from ⟨hs2, hr2⟩); have hfr := H2.out.free; clear hb2 hs2 hr2)
        try go_wp2_with fail
        refine hK.out _ _ (HLS.out _ m p u r H2.out.1) (fun hHeld => ?_)
        clear hK K
        try simp only [Act.put, List.setIfInBounds_toArray, List.set_cons_zero, List.set_cons_succ]
        refine wpAnyH_take (i := 7) (oi := { dst := some 29, op := _, type := _, pos := _, after := _, guard := _ }) (v := ?v10) rfl (by kernel_rfl) (by kernel_rfl) (by kernel_rfl) (fun _ _ _ h => h) (Or.inl ⟨by rfl, ?y10⟩) (by assumption) ?r10
        case y10 => (intro w hSw; go_simp; try with_reducible rfl)
        try simp only [Act.put, List.setIfInBounds_toArray, List.set_cons_zero, List.set_cons_succ]
        refine wpAnyH_take (i := 8) (oi := { dst := some 37, op := _, type := _, pos := _, after := _, guard := _ }) (v := ?v11) rfl (by kernel_rfl) (by kernel_rfl) (by kernel_rfl) (fun _ _ _ h => h) (Or.inl ⟨by rfl, ?y11⟩) (by assumption) ?r11
        case y11 => (intro w hSw; go_simp; try with_reducible rfl)
        try simp only [Act.put, List.setIfInBounds_toArray, List.set_cons_zero, List.set_cons_succ]
        refine wpAnyH_take (i := 9) (oi := { dst := some 38, op := _, type := _, pos := _, after := _, guard := _ }) (v := ?v12) rfl (by kernel_rfl) (by kernel_rfl) (by kernel_rfl) (fun _ _ _ h => h) (Or.inl ⟨by rfl, ?y12⟩) (by assumption) ?r12
        case y12 => (intro w hSw; go_simp; try with_reducible rfl)
        try simp only [Act.put, List.setIfInBounds_toArray, List.set_cons_zero, List.set_cons_succ]
        refine wpAnyH_ready (rs := [11]) (by kernel_rfl) (by simp) (AllReadyH.cons (o := _) rfl (fun K hK => ?_) AllReadyH.nil)
        go_simp
        refine hK.out _ _ (HLS.out _ m p u r (H2.out.put HOR.out HF.out.1 HF.out.2).2) (fun hHeld => ?_)
        clear hK K
        try simp only [Act.put, List.setIfInBounds_toArray, List.set_cons_zero, List.set_cons_succ]
        have Hz := Lib.hid (H2.out.put HOR.out HF.out.1 HF.out.2)
        generalize aggW w2 m2 _ = Wz9 at Hz hHeld ⊢
        refine wpAnyH_take (i := 12) (oi := { dst := some 11, op := _, type := _, pos := _, after := _, guard := _ }) (v := ?v13) rfl (by kernel_rfl) (by kernel_rfl) (by kernel_rfl) (fun _ _ _ h => h) (Or.inl ⟨by rfl, ?y13⟩) (by assumption) ?r13
        case y13 => (intro w hSw; go_simp; try with_reducible rfl)
        try simp only [Act.put, List.setIfInBounds_toArray, List.set_cons_zero, List.set_cons_succ]
        refine wpAnyH_done (by kernel_rfl) ?_ _
        go_wp2_with fail
        go_meet
        case rel => exact ⟨m2, u7, r7, rfl, rfl, Hz.out⟩
    · go_simp
      refine hK.out _ _ (HLS.out _ m p u r Hq.out.mkb.1) (fun hHeld => ?_)
      clear hK K
      try simp only [Act.put, List.setIfInBounds_toArray, List.set_cons_zero, List.set_cons_succ]
      have HA := Lib.hid Hq.out.mkb
      generalize wq.alloc (.cells #[.bool false, .int .i64 0, .int .i64 0, .int .i64 0, .bool false, .int .u8 0, .int .u8 0, .int .u8 0, .int .u8 0, .int .u8 0, .int .u8 0, .int .u8 0, .int .u8 0, .int .u8 0, .int .u8 0, .int .u8 0, .int .u8 0, .int .u8 0, .int .u8 0, .int .u8 0, .int .u8 0, .bool false, .int .i64 0, .int .i64 0, .slice none 0 0, .slice none 0 0] 28) = WA at HA hHeld ⊢
      generalize wq.heap.size = m2 at HA ⊢
      have HAz := Lib.hid HA.out.1
      refine wpAnyH_ready (rs := [3]) (by kernel_rfl) (by simp) (AllReadyH.cons (o := _) rfl (fun K hK => ?_) AllReadyH.nil)
      go_simp
      (go_at_call 8; (with_reducible refine (HWV.out _ HAz.out).mono ?_); rintro x w1 ⟨rfl, hb1⟩; have H1 := Lib.hid (HA.out.below hb1); clear hb1)
      try go_wp2_with fail
      refine hK.out _ _ (HLS.out _ m p u r H1.out.1) (fun hHeld => ?_)
      clear hK K
      try simp only [Act.put, List.setIfInBounds_toArray, List.set_cons_zero, List.set_cons_succ]
      refine wpAnyH_ready (rs := [6]) (by kernel_rfl) (by simp) (AllReadyH.cons (o := _) rfl (fun K hK => ?_) AllReadyH.nil)
      go_simp
      (go_at_call 7; (with_reducible refine (HRD.out _).mono ?_); rintro x w2 ⟨u7, r7, rfl, hb2, _, hs2, hr2⟩; have hft := fok_tk HOR.out hs2.1.one hr2.rcs.one; have H2 := Lib.hid (H1.out.below hb2); have HF := Lib.hid (show AdsT w2 u7 R.src ∧ RcT w2 r7 R.rcs from ⟨hs2, hr2⟩); have hfr := H2.out.free; clear hb2 hs2 hr2)
      try go_wp2_with fail
      refine hK.out _ _ (HLS.out _ m p u r H2.out.1) (fun hHeld => ?_)
      clear hK K
      try simp only [Act.put, List.setIfInBounds_toArray, List.set_cons_zero, List.set_cons_succ]
      refine wpAnyH_take (i := 7) (oi := { dst := some 29, op := _, type := _, pos := _, after := _, guard := _ }) (v := ?v14) rfl (by kernel_rfl) (by kernel_rfl) (by kernel_rfl) (fun _ _ _ h => h) (Or.inl ⟨by rfl, ?y14⟩) (by assumption) ?r14
      case y14 => (intro w hSw; go_simp; try with_reducible rfl)
      try simp only [Act.put, List.setIfInBounds_toArray, List.set_cons_zero, List.set_cons_succ]
      refine wpAnyH_take (i := 8) (oi := { dst := some 37, op := _, type := _, pos := _, after := _, guard := _ }) (v := ?v15) rfl (by kernel_rfl) (by kernel_rfl) (by kernel_rfl) (fun _ _ _ h => h) (Or.inl ⟨by rfl, ?y15⟩) (by assumption) ?r15
      case y15 => (intro w hSw; go_simp; try with_reducible rfl)
      try simp only [Act.put, List.setIfInBounds_toArray, List.set_cons_zero, List.set_cons_succ]
      refine wpAnyH_take (i := 9) (oi := { dst := some 38, op := _, type := _, pos := _, after := _, guard := _ }) (v := ?v16) rfl (by kernel_rfl) (by kernel_rfl) (by kernel_rfl) (fun _ _ _ h => h) (Or.inl ⟨by rfl, ?y16⟩) (by assumption) ?r16
      case y16 => (intro w hSw; go_simp; try with_reducible rfl)
      try simp only [Act.put, List.setIfInBounds_toArray, List.set_cons_zero, List.set_cons_succ]
      refine wpAnyH_ready (rs := [11]) (by kernel_rfl) (by simp) (AllReadyH.cons (o := _) rfl (fun K hK => ?_) AllReadyH.nil)
      go_simp
      refine hK.out _ _ (HLS.out _ m p u r (H2.out.put HOR.out HF.out.1 HF.out.2).2) (fun hHeld => ?_)
      clear hK K
      try simp only [Act.put, List.setIfInBounds_toArray, List.set_cons_zero, List.set_cons_succ]
      have Hz := Lib.hid (H2.out.put HOR.out HF.out.1 HF.out.2)
      generalize aggW w2 m2 _ = Wz9 at Hz hHeld ⊢
      refine wpAnyH_take (i := 12) (oi := { dst := some 11, op := _, type := _, pos := _, after := _, guard := _ }) (v := ?v17) rfl (by kernel_rfl) (by kernel_rfl) (by kernel_rfl) (fun _ _ _ h => h) (Or.inl ⟨by rfl, ?y17⟩) (by assumption) ?r17
      case y17 => (intro w hSw; go_simp; try with_reducible rfl)
      try simp only [Act.put, List.setIfInBounds_toArray, List.set_cons_zero, List.set_cons_succ]
      refine wpAnyH_done (by kernel_rfl) ?_ _
      go_wp2_with fail
      go_meet
      case rel => exact ⟨m2, u7, r7, rfl, rfl, Hz.out⟩
  case rest =>
    obtain ⟨m2, u7, r7, rfl, rfl, hg9⟩ := hcut
    have H9 := Lib.hid hg9
    clear hg9 hfm HRD HWV
    obtain ⟨k1, k2, _⟩ := HK.out _ H9.out.2
    have k4 := H9.out.1.tk.row
    by_cases h64 : 64 < k
    · obtain ⟨rfl, rfl, rfl⟩ := HGF.out h64
      have hd : (64 : Int) < (k : Int) := by omega
      have HX := Lib.hid (HSZ.out _ _ (tkC zeroT (.slice none 0 0) (.slice none 0 0)) H9.out.1.tks ⟨zeroA_ok, _, _, rfl, Ads.nil _, Rcs.nil _⟩)
      clear h64
      go_wp2_with (first
        | (go_at_call 9; (with_reducible refine (HX.out).mono ?_); rintro x w8 ⟨rfl, hb8⟩; have H8 := Lib.hid (bstep H9.out.1.blw hb8); clear hb8)
        | (go_at_call 10; (with_reducible refine (HL.out _).mono ?_); rintro x w9 ⟨rfl, hb9⟩; have Hz9 := Lib.hid (bstep H8.out hb9); clear hb9))
      go_ret
      exact ⟨rfl, Hz9.out⟩
    · obtain ⟨rfl, hRT, rfl⟩ := HGT.out (by omega)
      have hd : ¬ (64 : Int) < (k : Int) := by omega
      subst hRT
      have HX := Lib.hid (HS.out _ _ (tkC R u r) H9.out.1.tks ⟨HOR.out, _, _, rfl, H9.out.2.src.1, H9.out.2.rcs.rcs⟩)
      clear h64
      go_wp2_with (first
        | (go_at_call 9; (with_reducible refine (HX.out).mono ?_); rintro x w8 ⟨rfl, hb8⟩; have H8 := Lib.hid (bstep H9.out.1.blw hb8); clear hb8)
        | (go_at_call 10; (with_reducible refine (HL.out _).mono ?_); rintro x w9 ⟨rfl, hb9⟩; have Hz9 := Lib.hid (bstep H8.out hb9); clear hb9))
      go_ret
      exact ⟨rfl, Hz9.out⟩
theorem mlong (n : Nat) (hn : n < 256) (rep : Bool) (w : World) : Calls Try.prog 3 #[.int .u8 n, .bool rep] w fun x w' => x = .returned (.bool true) ∧ Below w.heap.size w w' := by
  cases rep with
  | true => exact mlong_core n hn _ true (long_rep9 _ (by omega)) w
  | false => exact mlong_core n hn _ false (long_qry9 _ (by omega)) w
end Go.Proofs.Ytgpccgcppbdlpaa
