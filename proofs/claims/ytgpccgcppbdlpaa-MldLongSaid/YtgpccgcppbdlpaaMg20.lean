/-
  Texts joined: PureTkB, PureMdB, MdA, MdG, MdI, MdJ.
-/
import Derived.Test.YtgpccgcppbdlpaaMg11
import Derived.Test.YtgpccgcppbdlpaaPureMd
import Derived.Test.YtgpccgcppbdlpaaMg12
import Derived.Deep.QuietTactic
import Derived.BigQuiet
/-
  Talks of IGMP, plain: what is read of some bytes is good.
-/
namespace Go.Proofs.Ytgpccgcppbdlpaa
open Go.RowKit
set_option linter.unusedVariables false

theorem exact_valN (c u m : Nat) (hu : 0 < u) (hm : m < 16 * u) (hc : c ≤ m) : exactN (valN c u) u m = true := by
  unfold exactN
  rw [decide_eq_true_eq]
  exact ⟨Int.natCast_nonneg _, by rw [← codeN_uniq hu hm (IsCode.back hu hm hc)]⟩
end Go.Proofs.Ytgpccgcppbdlpaa

/-
  Talks of MLD, plain: what is read of some bytes is good.
-/
namespace Go.Proofs.Ytgpccgcppbdlpaa
open Go.RowKit
set_option linter.unusedVariables false

theorem sixL_ok (s : List UInt8) (i : Nat) : adOk (sixL s i) := readV_length _ (by simp; omega)
end Go.Proofs.Ytgpccgcppbdlpaa

/-
  The document's own Group, zero, Sources and list of layer 9.
-/
namespace Go.Proofs.Ytgpccgcppbdlpaa
open Go.RowKit
set_option linter.unusedVariables false
attribute [local go_sem ↓] ld_addr st_addr bld_addr
attribute [local go_sem] ldr_addr str_addr row?_drewN_eq row?_drew_eq

set_option maxRecDepth 100000 in
set_option maxHeartbeats 2000000 in
theorem rlist9_any (v : Value) (l : List AD) (w : World) (ha : Ads w v l) (hl : l.length ≤ 10000) : Calls Try.prog 25 #[v] w fun x w' => x = .returned (.string (Str (listL l))) ∧ Below w.heap.size w w' := by
  obtain ⟨p, cap, rfl, h1, h2⟩ := ha.len
  by_cases h0 : l.length = 0
  · have e1 : l = [] := List.eq_nil_of_length_eq_zero h0
    subst e1
    go_enter Try.func25, Try.ntmps25
    go_wp2_with fail
    go_loop [3, 4] (fun s i => i = .int .i64 0 ∧ s = .string ⟨#[]⟩) (fun _ _ => 0)
    case atStart => exact ⟨rfl, rfl⟩
    case round =>
      obtain ⟨rfl, rfl⟩ := hrel
      go_wp2
      go_ret
      exact ⟨rfl, Below.refl _ _⟩
  · have na : l ≠ [] := fun h => h0 (by rw [h]; rfl)
    obtain ⟨b, o, cap', e, _, _, hbl, Ra⟩ := ha.parts na
    simp only [Value.slice.injEq] at e
    obtain ⟨rfl, _, rfl⟩ := e
    have OA := Lib.hid ha.ok
    have RA := Lib.hid Ra
    have HBL := Lib.hid hbl
    have HLE := Lib.hid (fun k => listL_le (l := l.take k) (fun a h => ha.ok a (List.mem_of_mem_take h)))
    obtain ⟨n, hn⟩ : ∃ n, n = l.length := ⟨_, rfl⟩
    have hmx : n ≤ 10000 := by omega
    rw [← hn] at h0 ⊢
    have HN := Lib.hid hn
    clear Ra ha na hn hbl h1 h2 hl
    go_enter Try.func25, Try.ntmps25
    go_wp2_with fail
    go_loopw [3, 4] (fun s i wr => ∃ k : Nat, k ≤ n ∧ i = .int .i64 k ∧ s = .string (Str (listL (l.take k))) ∧ Hid (Below w.heap.size w wr)) (fun _ i _ => n - (intOf i).toNat)
    case atStart => exact ⟨0, by omega, rfl, rfl, Lib.hid (Below.refl _ _)⟩
    case round =>
      obtain ⟨k, hk, rfl, rfl, HB⟩ := hrel
      by_cases hlt : k < n
      · have g1 : k < l.length := by rw [← HN.out]; exact hlt
        have r1 := row?_below (RA.out k g1) HBL.out HB.out
        have HG : Hid (∀ W, Calls Try.prog 24 #[.agg (adC l[k]).toArray] W fun x w' => x = .returned (.string (Str (adB l[k]))) ∧ Below W.heap.size W w') := Lib.hid fun W => rbytes_any l[k].1 l[k].2 (OA.out _ (List.getElem_mem g1)) W
        have hc := listL_succ g1
        have hb16 := adB_le (OA.out _ (List.getElem_mem g1))
        have hle := HLE.out k
        rw [List.length_take, Nat.min_eq_left (by rw [← HN.out]; exact hk)] at hle
        have hrc := run_cat (P := Try.prog) (listL (l.take k)) (adB l[k]) (by omega)
        rw [← hc] at hrc
        have hd : decide ((k : Int) < (n : Int)) = true := by simp; omega
        have hk1 : (k : Int) < (n : Int) := by omega
        have hw1 : IntKind.i64.wrap ((k : Int) + 1) = (k : Int) + 1 := by simp only [IntKind.wrap_i64]; omega
        generalize adB l[k] = B at *
        generalize adC l[k] = A at *
        clear g1 hc hb16 hle
        generalize hX : listL (l.take (k + 1)) = X at hrc
        generalize listL (l.take k) = Y at *
        have HX := Lib.hid hX
        clear hX
        go_wp2_with (go_at_call 24; (with_reducible refine (HG.out _).mono ?_); rintro x w1 ⟨rfl, hb1⟩; have H1 := Lib.hid (bstep HB.out hb1); clear hb1)
        go_roundw
        case rel => exact ⟨k + 1, by omega, by go_num, by rw [HX.out], H1⟩
        case measure => simp [intOf]; omega
      · have hd : ¬ (k : Int) < (n : Int) := by omega
        have HV := Lib.hid (show listL (l.take k) = listL l by rw [List.take_of_length_le (by rw [← HN.out]; omega)])
        go_wp2
        go_ret
        exact ⟨by rw [← HV.out]; rfl, HB.out⟩
end Go.Proofs.Ytgpccgcppbdlpaa

/-
  The document's own Good of layer 9, but for reports of version 2 and full queries.
-/
namespace Go.Proofs.Ytgpccgcppbdlpaa
open Go.RowKit
set_option linter.unusedVariables false
set_option linter.unusedSimpArgs false
attribute [local go_sem ↓] ld_addr st_addr bld_addr
attribute [local go_sem] ldr_addr str_addr

/-- The talk boxed. -/
def GD9 (w W : World) (t : TK) (us ur : Value) : Prop := TkAt W w.heap.size t us ur ∧ Below w.heap.size w W
theorem GD9.made (w : World) (t : TK) (us ur : Value) (h : adOk t.g) : GD9 w (w.alloc (.cells (tkC t us ur).toArray 28)) t us ur := ⟨TkAt.made w t us ur h, (Below.refl _ _).alloc (Nat.le_refl _) _⟩
theorem GD9.below {w W W' : World} {t : TK} {us ur : Value} (h : GD9 w W t us ur) (hb : Below W.heap.size W W') : GD9 w W' t us ur := ⟨h.1.below hb, bstep h.2 hb⟩
theorem GD9.bl {w W : World} {t : TK} {us ur : Value} (h : GD9 w W t us ur) : Below w.heap.size w W := h.2
/-- What Good reads. -/
def GC9 (w W : World) (t : TK) (us ur : Value) : Prop :=
  W.cell? ⟨w.heap.size, 0, none⟩ = some (.bool t.v6) ∧ W.cell? ⟨w.heap.size, 1, none⟩ = some (.int .i64 t.ver) ∧ W.cell? ⟨w.heap.size, 2, none⟩ = some (.int .i64 t.kind) ∧ W.cell? ⟨w.heap.size, 3, none⟩ = some (.int .i64 t.resp) ∧ row? W w.heap.size 4 17 = some (adC t.g) ∧ W.cell? ⟨w.heap.size, 21, none⟩ = some (.bool t.quiet) ∧ W.cell? ⟨w.heap.size, 22, none⟩ = some (.int .i64 t.rob) ∧ W.cell? ⟨w.heap.size, 23, none⟩ = some (.int .i64 t.every) ∧ W.cell? ⟨w.heap.size, 24, none⟩ = some us ∧ W.cell? ⟨w.heap.size, 25, none⟩ = some ur ∧ W.cell? ⟨w.heap.size, 4, none⟩ = some (.bool t.g.1)
theorem GD9.cells {w W : World} {t : TK} {us ur : Value} (h : GD9 w W t us ur) : GC9 w W t us ur :=
  ⟨h.1.v6, h.1.ver, h.1.kind, h.1.resp, h.1.rg, h.1.quiet, h.1.rob, h.1.every, h.1.us, h.1.ur, cells_ad h.1.rg⟩


end Go.Proofs.Ytgpccgcppbdlpaa

/-
  The document's own Good of layer 9: full queries.
-/
namespace Go.Proofs.Ytgpccgcppbdlpaa
open Go.RowKit
set_option linter.unusedVariables false
set_option linter.unusedSimpArgs false
attribute [local go_sem ↓] ld_addr st_addr bld_addr
attribute [local go_sem] ldr_addr str_addr row?_drewN_eq row?_drew_eq

end Go.Proofs.Ytgpccgcppbdlpaa

/-
  The document's own Good of layer 9: reports of version 2, and any talk.
-/
namespace Go.Proofs.Ytgpccgcppbdlpaa
open Go.RowKit
set_option linter.unusedVariables false
set_option linter.unusedSimpArgs false
attribute [local go_sem ↓] ld_addr st_addr bld_addr ld_rec st_rec
attribute [local go_sem] ldr_addr str_addr ldr_rec str_rec

theorem sizeR9_succ {l : List RC} {k : Nat} (h : k < l.length) : sizeR9 (l.take (k + 1)) = sizeR9 (l.take k) + 20 + 16 * l[k].src.length := by
  unfold sizeR9
  rw [List.take_succ_eq_append_getElem h, List.map_append, List.sum_append]
  simp; omega
theorem srcs9_len {l : List AD} (h : srcs9 l = true) : l.length < 65 := by
  unfold srcs9 at h
  rw [Bool.and_eq_true, decide_eq_true_eq] at h
  exact h.2
theorem sizeR9_le {l : List RC} (h : l.all recOk9 = true) : sizeR9 l ≤ 8 + 1044 * l.length := by
  induction l with
  | nil => simp [sizeR9]
  | cons r q ih =>
    rw [List.all_cons, Bool.and_eq_true] at h
    have h1 := ih h.2
    have h2 := h.1
    unfold recOk9 at h2
    rw [Bool.and_eq_true] at h2
    have h3 := srcs9_len h2.2
    unfold sizeR9 at h1 ⊢
    simp at h1 ⊢
    omega


end Go.Proofs.Ytgpccgcppbdlpaa

