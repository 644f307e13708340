/-
  Texts joined: EqE, EqI, IpR, IpG, IpU, TqA, TrA, TqB, TlD, TlF.
-/
import Derived.Test.YtalnfjnfcloonaaDoorMg04
import Derived.Test.YtalnfjnfcloonaaDoorEth
import Derived.Test.YtalnfjnfcloonaaDoorIp
import Derived.Test.YtalnfjnfcloonaaDoorMg13
import Derived.Test.YtalnfjnfcloonaaDoorMg11
import Derived.Test.YtalnfjnfcloonaaDoorRread
import Derived.Deep.CutRange
import Derived.Deep.LoopGhost
/-
  A frame held against itself: a rule for the walk.
-/
namespace Go.Proofs.YtalnfjnfcloonaaDoor
open Go.RowKit
set_option linter.unusedVariables false

end Go.Proofs.YtalnfjnfcloonaaDoor

/-
  A packet held against itself: a rule for the walk.
-/
namespace Go.Proofs.YtalnfjnfcloonaaDoor
open Go.RowKit
set_option linter.unusedVariables false

end Go.Proofs.YtalnfjnfcloonaaDoor

/-
  The contract of ip4.Read.
-/
namespace Go.Proofs.YtalnfjnfcloonaaDoor
open Go.RowKit
set_option linter.unusedVariables false
attribute [local go_sem ↓] ld_addr st_addr
attribute [local go_sem] ldr_addr str_addr

end Go.Proofs.YtalnfjnfcloonaaDoor

/-
  The document's own Alert.
-/
namespace Go.Proofs.YtalnfjnfcloonaaDoor
open Go.RowKit
set_option linter.unusedVariables false

end Go.Proofs.YtalnfjnfcloonaaDoor

/-
  The document's own reading of a packet: what is wrong.
-/
namespace Go.Proofs.YtalnfjnfcloonaaDoor
open Go.RowKit
set_option linter.unusedVariables false
attribute [local go_sem ↓] ld_addr st_addr
attribute [local go_sem] ldr_addr str_addr

end Go.Proofs.YtalnfjnfcloonaaDoor

/-
  The document's own query of layer 8.
-/
namespace Go.Proofs.YtalnfjnfcloonaaDoor
open Go.RowKit
set_option linter.unusedVariables false
set_option linter.unusedSimpArgs false
attribute [local go_sem ↓] ld_addr st_addr bld_addr
attribute [local go_sem] ldr_addr str_addr

end Go.Proofs.YtalnfjnfcloonaaDoor

/-
  The document's own records of layer 8: the records of a report, read one after the other.
-/
namespace Go.Proofs.YtalnfjnfcloonaaDoor
open Go.RowKit
set_option linter.unusedVariables false
set_option linter.unusedSimpArgs false
attribute [local go_sem ↓] ld_addr st_addr bld_addr
attribute [local go_sem] ldr_addr str_addr

/-- What is left to read of a report's records. -/
def RS (s : List UInt8) (n i m : Nat) (acc : List RC) : Prop := (recL s 8 n).2 = (recL s i m).2 ∧ ((recL s i m).2 = 0 → (recL s 8 n).1 = acc ++ (recL s i m).1)
theorem RS.start (s : List UInt8) (n : Nat) : RS s n 8 n [] := ⟨rfl, fun _ => by simp⟩
theorem RS.done {s : List UInt8} {n i : Nat} {acc : List RC} (h : RS s n i 0 acc) : recL s 8 n = (acc, 0) := by
  obtain ⟨h1, h2⟩ := h
  have e : recL s i 0 = ([], 0) := by unfold recL; rfl
  rw [e] at h1 h2
  exact Prod.ext (by rw [h2 rfl]; simp) h1
theorem RS.ends {s : List UInt8} {n i m : Nat} {acc : List RC} (h : RS s n i (m + 1) acc) (h1 : ¬ s.length < i + 8) (h2 : srcsE s (i + 8) (wd s (i + 2)) = 0) (h3 : s.length < recN s i) : (recL s 8 n).2 = 3 := by
  rw [h.1]; unfold recL; rw [if_neg h1, if_neg (by rw [h2]; simp), if_pos h3]
theorem RS.step {s : List UInt8} {n i m : Nat} {acc : List RC} (h : RS s n i (m + 1) acc) (h1 : ¬ s.length < i + 8) (h2 : srcsE s (i + 8) (wd s (i + 2)) = 0) (h3 : ¬ s.length < recN s i) :
    RS s n (recN s i) m (if rcOk (rec1 s i) then acc ++ [rec1 s i] else acc) := by
  obtain ⟨a1, a2⟩ := h
  have e : recL s i (m + 1) = if (recL s (recN s i) m).2 ≠ 0 then ([], (recL s (recN s i) m).2) else (if rcOk (rec1 s i) then rec1 s i :: (recL s (recN s i) m).1 else (recL s (recN s i) m).1, 0) := by
    conv => lhs; unfold recL
    rw [if_neg h1, if_neg (by rw [h2]; simp), if_neg h3]
  rw [e] at a1 a2
  by_cases hz : (recL s (recN s i) m).2 = 0
  · rw [if_neg (by rw [hz]; simp)] at a1 a2
    refine ⟨by rw [a1, hz], fun _ => ?_⟩
    rw [a2 rfl]
    split <;> simp
  · rw [if_pos hz] at a1
    exact ⟨a1, fun h => absurd h hz⟩
/-- A record that has been boxed in the region. -/
def RG8 (w0 W : World) (m : Nat) (r : RC) (u : Value) : Prop := RcU W m 0 r u ∧ Below w0.heap.size w0 W ∧ w0.heap.size ≤ m
theorem RG8.below {w0 W W' : World} {m : Nat} {r : RC} {u : Value} (h : RG8 w0 W m r u) (hb : Below W.heap.size W W') : RG8 w0 W' m r u := ⟨h.1.below hb, bstep h.2.1 hb, h.2.2⟩
end Go.Proofs.YtalnfjnfcloonaaDoor

/-
  The document's own Read of layer 8.
-/
namespace Go.Proofs.YtalnfjnfcloonaaDoor
open Go.RowKit
set_option linter.unusedVariables false
set_option linter.unusedSimpArgs false
attribute [local go_sem ↓] ld_addr st_addr bld_addr
attribute [local go_sem] ldr_addr str_addr

end Go.Proofs.YtalnfjnfcloonaaDoor

/-
  Talks made later, and what a reader of talks tells.
-/
namespace Go.Proofs.YtalnfjnfcloonaaDoor
open Go.RowKit
set_option linter.unusedVariables false
set_option linter.unusedSimpArgs false
theorem Rcs.ok {w : World} {v : Value} {l : List RC} (h : Rcs w v l) : ∀ r ∈ l, adOk r.g ∧ ∀ a ∈ r.src, adOk a := by
  intro r hr
  obtain ⟨i, hi, rfl⟩ := List.mem_iff_getElem.1 hr
  obtain ⟨b, o, cap, _, _, _, h3⟩ := h.parts (fun e => by rw [e] at hi; exact absurd hi (by simp))
  obtain ⟨h4, _, u, _, h6⟩ := h3 i hi
  exact ⟨h4, h6.ok⟩
theorem Tks.ok {w : World} {cs : List Value} {t : TK} (h : Tks w cs t) : t.ok := by
  obtain ⟨h1, us, ur, h2, h3, h4⟩ := h
  exact ⟨h1, h3.ok, h4.ok⟩
theorem TM.fok {W : World} {t : TK} {us ur : Value} (ho : adOk t.g) (hs : Ads W us t.src) (hr : Rcs W ur t.rcs) : fok (tkC t us ur).toArray 26 = true := fok_tk ho hs.one hr.one
end Go.Proofs.YtalnfjnfcloonaaDoor

/-
  The law's own copies of addresses, somewhat cut.
-/
namespace Go.Proofs.YtalnfjnfcloonaaDoor
open Go.RowKit
set_option linter.unusedVariables false
attribute [local go_sem ↓] ld_addr st_addr bld_addr adsLit_eq
attribute [local go_sem] ldr_addr str_addr

theorem adsC_take {l : List AD} {k : Nat} (h : k < l.length) : adsC (l.take (k + 1)) = adsC (l.take k) ++ adC l[k] := by
  unfold adsC
  rw [List.take_succ_eq_append_getElem h, List.map_append, List.flatten_append]
  simp
theorem own_len {w : World} {base : Nat} {e : TypeId} {size n k : Nat} {v : Value} {xs : List Value} (h : w.ownsRow base e size v n xs) (hk : n = k) : w.ownsRow base e size v k xs := by subst hk; exact h
end Go.Proofs.YtalnfjnfcloonaaDoor

