/-
  The clock's Keys, Copy and Next.
-/
import Derived.Test.YtiegeejbnplhdaaCkO
import Derived.Test.YtiegeejbnplhdaaLay
import Derived.Sort.OwnSorted
namespace Go.Proofs.Ytiegeejbnplhdaa
open Go.RowKit
set_option linter.unusedVariables false
set_option linter.unusedSimpArgs false

/-- What is held of a clock's entries. -/
structure EnOk (l : List EN) : Prop where
  ck : CkOk l
  kl : ∀ x ∈ l, x.1.length ≤ maxLen
  tw : ∀ x ∈ l, (Lit.int .i64 x.2).wf = true
theorem EnOk.nil : EnOk [] := ⟨CkOk.nil, (fun x h => by cases h), (fun x h => by cases h)⟩
theorem EnOk.set {l : List EN} (h : EnOk l) {k : List UInt8} {t : Int} (hk : k.length ≤ maxLen) (ht : (Lit.int .i64 t).wf = true) : EnOk (setE l k t) :=
  ⟨h.ck.set k t, fun x hx => by
    rcases (mem_setE _ _ _ _).1 hx with rfl | ⟨h1, _⟩
    · exact hk
    · exact h.kl x h1, fun x hx => by
    rcases (mem_setE _ _ _ _).1 hx with rfl | ⟨h1, _⟩
    · exact ht
    · exact h.tw x h1⟩
theorem EnOk.cut {l : List EN} (h : EnOk l) (k : List UInt8) : EnOk (cutE l k) :=
  ⟨h.ck.cut k, fun x hx => h.kl x ((mem_cutE _ _ _).1 hx).1, fun x hx => h.tw x ((mem_cutE _ _ _).1 hx).1⟩
theorem EnOk.drop {l : List EN} (h : EnOk l) (n : Nat) : EnOk (l.drop n) := ⟨h.ck.drop n, fun x hx => h.kl x (List.mem_of_mem_drop hx), fun x hx => h.tw x (List.mem_of_mem_drop hx)⟩

theorem KS_Cs (ks : List (List UInt8)) : KS.Cs ks = ks.map encStr := by
  induction ks with
  | nil => rfl
  | cons a r ih => rw [Kind.Cs_cons, ih]; rfl
theorem sortst_any (base : Nat) (v : Value) (ks : List (List UInt8)) (w : World) (hown : OwnV KS 9 w base v ks) (hll : ks.length ≤ 1000000) :
    Calls Try.prog 32 #[v] w fun x w' => x = .returned (.tuple #[]) ∧ OwnV KS 9 w' base v (ks.mergeSort fun x y => decide (x ≤ y)) ∧ w.grownBy w' v.ownBlock := by
  obtain ⟨h1, ⟨h2, h3⟩ | ⟨g, cap, cur, e1, e2, e3, e4, e5, e6, e7⟩⟩ := hown
  · subst h2
    have hl : ks = [] := List.eq_nil_of_length_eq_zero h3
    subst hl
    have hcon := AnyM.slices_Sort_string_none Try.sortSt none 0 w
    change Calls Try.prog 32 _ _ _ at hcon
    rw [List.mergeSort_nil]
    exact hcon.mono fun _ _ ⟨hx, hb⟩ => ⟨hx, World.ownsRow_nil _ _ _ _, hb ▸ ⟨rfl, rfl, rfl, Nat.le_refl _, fun _ _ _ => rfl⟩⟩
  · subst e1
    rw [KS_Cs] at e7
    change List.take (ks.length * 1) _ = _ at e7
    rw [Nat.mul_one] at e7
    have hg : g < w.heap.size := (Array.getElem?_eq_some_iff.1 e3).1
    have hcon := AnyM.slices_Sort_string Try.sortSt g 0 cap ks w (holds_of_block e3 e7) hg (by omega)
    change Calls Try.prog 32 _ _ _ at hcon
    refine hcon.mono fun x w' ⟨hx, n, os, hw⟩ => ⟨hx, ?_, ?_⟩
    · rw [hw]
      have := ownsRow_sorted (n := n) (os := os) (ss := ks) (ts := ks.mergeSort fun x y => decide (x ≤ y)) (List.length_mergeSort _) e2 e3 e4 e5 e6
      unfold OwnV
      rw [List.length_mergeSort, KS_Cs]
      exact this
    · rw [hw]; exact grownBy_sorted _
theorem merge_keys {l : List EN} (h : CkOk l) {ks : List (List UInt8)} (hp : ks.Perm (keysE l)) : (ks.mergeSort fun x y => decide (x ≤ y)) = sortK (keysE l) := by
  have tr : ∀ a b c : List UInt8, leB a b = true → leB b c = true → leB a c = true := fun a b c h1 h2 => by simp only [leB, decide_eq_true_eq] at *; exact List.le_trans h1 h2
  have tt : ∀ a b : List UInt8, (leB a b || leB b a) = true := fun a b => by simp only [leB, Bool.or_eq_true, decide_eq_true_eq]; exact List.le_total a b
  have hpm := (List.mergeSort_perm ks leB).trans hp
  have hs := List.pairwise_mergeSort tr tt ks
  have hn : (ks.mergeSort leB).Nodup := hpm.nodup_iff.2 h.nodup
  refine h.keys_ext ?_ fun k => ?_
  · have hb : (ks.mergeSort leB).Pairwise (fun a b => a ≠ b ∧ leB a b = true) := hn.and hs
    refine hb.imp fun {a b} ⟨h1, h2⟩ => ?_
    simp only [leB, decide_eq_true_eq] at h2
    unfold ltK
    rw [decide_eq_true_iff]
    rcases ltK_tot a b h1 with h3 | h3
    · unfold ltK at h3; exact of_decide_eq_true h3
    · unfold ltK at h3
      exact absurd (of_decide_eq_true h3) (List.not_lt.2 h2)
  · have := hpm.mem_iff (a := k)
    rw [show (fun x y => decide (x ≤ y)) = leB from rfl, this]
    unfold keysE
    simp
theorem tillE_max {l : List EN} (h : EnOk l) : tillE 9223372036854775807 l = keysE l := by
  unfold tillE
  congr 1
  refine List.filter_eq_self.2 fun x hx => ?_
  have h1 := h.tw x hx
  have h2 : IntKind.i64.min ≤ x.2 ∧ x.2 ≤ IntKind.i64.max := by simpa [Lit.wf] using h1
  have h3 : IntKind.i64.max = 9223372036854775807 := rfl
  rw [decide_eq_true_iff]
  omega
theorem grownBelow {w w' : World} (h : Below w.heap.size w w') : w.grownBy w' none := ⟨h.os, h.tape, h.output, h.size, fun k hk _ => h.block k hk⟩
set_option maxRecDepth 100000 in
theorem ckeys_any (p : Value) (l : List EN) (w : World) (h : ClkV w p l) (hok : EnOk l) (hll : l.length ≤ 100000) :
    Calls Try.prog 23 #[p] w fun x w' => ∃ v', x = .returned v' ∧ Below w.heap.size w w' ∧ OwnV KS 9 w' w.heap.size v' (sortK (keysE l)) := by
  have HU := Lib.hid (until_any p l 9223372036854775807 w h hok.ck hll)
  have HS := Lib.hid (fun base v ks w h1 h2 => sortst_any base v ks w h1 h2)
  have HO := Lib.hid hok
  clear h hok
  go_enter Try.func23, Try.ntmps23
  go_wp2_with (first
    | (go_at_call 27; refine HU.out.mono ?_; rintro x w1 ⟨v, rfl, hb, ks, hw, hp, _⟩; have HB := Lib.hid hb; have HW := Lib.hid hw; have HP := Lib.hid hp; clear hb hw hp)
    | (go_at_call 32; refine (HS.out _ _ _ _ HW.out (by have h1 := HP.out.length_eq; have h2 := tillE_len 9223372036854775807 l; omega)).mono ?_; rintro x w2 ⟨rfl, hw, hg⟩; have HW2 := Lib.hid hw; have HG := Lib.hid hg; clear hw hg))
  go_ret
  refine ⟨_, rfl, HB.out.grown HG.out HB.out.size (fun k e => (OwnV.ge HW.out k e).1), ?_⟩
  have hp := HP.out
  rw [tillE_max HO.out] at hp
  rw [← merge_keys HO.out.ck hp]
  exact HW2.out

end Go.Proofs.Ytiegeejbnplhdaa
