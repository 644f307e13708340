/-
  The contracts of addr.join, at numbers of 16 bits and at bytes.
-/
import Derived.Test.YtalnfjnfcloonaaGreatDoorMg27
import Derived.Test.YtalnfjnfcloonaaGreatDoorShelf
import Derived.Deep.AppendLies
import Derived.OwnWalk
namespace Go.Proofs.YtalnfjnfcloonaaGreatDoor
open Go.RowKit
set_option linter.unusedVariables false

/-- Numbers in a block from an offset on. -/
def RowN (k : IntKind) (w : World) (b o : Nat) (ns : List Nat) : Prop := ∀ i (h : i < ns.length), w.cell? ⟨b, o + i, none⟩ = some (.int k (ns[i] : Int))
theorem RowN.below {k : IntKind} {w w' : World} {b o : Nat} {ns : List Nat} {B : Nat} (h : RowN k w b o ns) (hB : b < B) (hb : Below B w w') : RowN k w' b o ns := fun i hi => by
  rw [hb.cell (p := ⟨b, o + i, none⟩) hB]; exact h i hi
theorem own_below {w w' : World} {base : Nat} {e : TypeId} {size : Nat} {v : Value} {n : Nat} {xs : List Value} (h : w.ownsRow base e size v n xs) (hb : Below w.heap.size w w') : w'.ownsRow base e size v n xs := by
  obtain ⟨h1, h2⟩ := h
  refine ⟨h1, ?_⟩
  rcases h2 with h2 | ⟨g, cap, cur, e1, e2, e3, e4, e5, e6, e7⟩
  · exact .inl h2
  · exact .inr ⟨g, cap, cur, e1, e2, (hb.block g (Array.getElem?_eq_some_iff.1 e3).1).trans e3, e4, e5, e6, e7⟩
theorem Tryz.info_strJ : (Tryz.prog.info? 9).map (fun i => (i.zero, i.size, i.bytes)) = some (some (.string ByteArray.empty), 1, 16) := by kernel_rfl
theorem join_small (xs : List (List UInt8)) (sep : UInt8) (m : Nat) (h : ∀ x ∈ xs, x.length ≤ m) : (Lib.join xs [sep]).length ≤ (m + 1) * xs.length := by
  match xs, h with
  | [], _ => simp [Lib.join, List.intercalate]
  | [x], h => rw [Lib.join_one]; have := h x (by simp); simp; omega
  | x :: y :: r, h =>
    have hj : Lib.join (x :: y :: r) [sep] = x ++ sep :: Lib.join (y :: r) [sep] := by simp [Lib.join, List.intercalate]
    have ih := join_small (y :: r) sep m (fun z hz => h z (by simp [hz]))
    have := h x (by simp)
    rw [hj]
    simp only [List.length_append, List.length_cons] at ih ⊢
    rw [Nat.mul_add (m + 1) (r.length + 1) 1]
    omega
/-- The parts that stand already. -/
def JoinSt (b : Nat) (k : IntKind) (w wr : World) (sb o : Nat) (ns : List Nat) (j g cap : Nat) : Prop :=
  wr.ownsRow w.heap.size 9 1 (.slice (some ⟨g, 0, none⟩) j cap) j ((ns.take j).map fun n => Value.string (Str (numD b n))) ∧ Below w.heap.size w wr ∧ RowN k wr sb o ns ∧ sb < w.heap.size
theorem JoinSt.below {b : Nat} {k : IntKind} {w wr w2 : World} {sb o : Nat} {ns : List Nat} {j g cap : Nat} (h : JoinSt b k w wr sb o ns j g cap) (hb : Below wr.heap.size wr w2) : JoinSt b k w w2 sb o ns j g cap :=
  ⟨own_below h.1 hb, bstep h.2.1 hb, h.2.2.1.below (Nat.lt_of_lt_of_le h.2.2.2 h.2.1.size) hb, h.2.2.2⟩
theorem joinL_any (b : Nat) (ns : List Nat) (sep : UInt8) (g cap : Nat) (w0 w : World) (hlen : ns.length ≤ 1000) (hown : w.ownsRow w0.heap.size 9 1 (.slice (some ⟨g, 0, none⟩) ns.length cap) ns.length (ns.map fun n => Value.string (Str (numD b n)))) :
    Calls Tryz.prog 55 #[.slice (some ⟨g, 0, none⟩) ns.length cap, .string (Str [sep])] w fun e w' => e = .returned (.string (Str (Lib.join (ns.map (numD b)) [sep]))) ∧ Below w.heap.size w w' := by
  have hlt := (hown.lt g rfl).2
  have hcap : ns.length ≤ cap := by
    rcases hown.2 with ⟨h, _⟩ | ⟨g', cap', cur, h, _, _, h4, _⟩
    · cases h
    · injection h with _ _ h3; subst h3; exact h4
  have h := Tryz.strings_Join g 0 cap (ns.map fun n => Str (numD b n)) (Str [sep]) w (fun j x hj => by
    rw [List.getElem?_map] at hj
    obtain ⟨n, hn, rfl⟩ := Option.map_eq_some_iff.1 hj
    have hjl : j < ns.length := (List.getElem?_eq_some_iff.1 hn).1
    have := hown.cellAt j (by simpa using hjl)
    rw [Nat.zero_add, this, List.getElem?_map, hn]; rfl) hlt (by simp; omega) (by simpa using hcap) (by
      rw [List.map_map]
      have := join_small (ns.map (numD b)) sep 5 (fun x hx => by obtain ⟨n, _, rfl⟩ := List.mem_map.1 hx; exact numD_length b n)
      have e : (ns.map ((fun x : ByteArray => x.data.toList) ∘ fun n => Str (numD b n))) = ns.map (numD b) := rfl
      rw [e]
      show (Lib.join (ns.map (numD b)) [sep]).length ≤ _
      simp at this
      omega)
  rw [List.length_map, List.map_map] at h
  exact h

set_option maxHeartbeats 2000000 in
set_option maxRecDepth 100000 in
theorem joinW_any (sb o cap : Nat) (ns : List Nat) (hns : ∀ n ∈ ns, n ≤ 65535) (hlen : ns.length ≤ 100) (w : World) (hrow : RowN .u16 w sb o ns) (hsb : sb < w.heap.size) (h : Env w) :
    Calls Tryz.prog 53 #[.slice (some ⟨sb, o, none⟩) ns.length cap, .string (Str [58]), .int .i64 16] w fun e w' => e = .returned (.string (Str (Lib.join (ns.map (numD 16)) [58]))) ∧ Below w.heap.size w w' := by
  have HE := Lib.hid h; clear h
  obtain ⟨i0, hi, hz0, hz1, hz2⟩ := info_parts Tryz.info_strJ
  have Hns := Lib.hid hns; clear hns
  have Hrow := Lib.hid hrow; clear hrow
  have hm100 : ns.length ≤ maxLen := by unfold maxLen; omega
  go_enter Tryz.func53, Tryz.ntmps53
  go_wp2_with (at_make; refine wpList_make_own _ rfl _ _ 89 rfl w.heap.size 9 i0 (.string ByteArray.empty) 1 Tryz.underlying89 hi hz0 hz1 .i64 .i64 _ ns.length rfl rfl rfl ?c1 hm100 ?c3 ?_)
  case c1 => rw [hz2]; omega
  case c3 => exact Nat.le_refl _
  intro w1 hown hgrow
  have hbel : Below w.heap.size w w1 := (Below.refl _ _).grown hgrow (Nat.le_refl _) (fun k h => by cases h)
  clear hgrow hm100
  have HS : Hid (JoinSt 16 .u16 w w1 sb o ns 0 w.heap.size ns.length) := Lib.hid ⟨hown, hbel, Hrow.out.below hsb hbel, hsb⟩
  clear hown hbel
  go_wp2
  go_loopw [7, 15] (fun vp vi wr => ∃ (j g cp : Nat), j ≤ ns.length ∧ vi = .int .i64 (j : Int) ∧ vp = .slice (some ⟨g, 0, none⟩) j cp ∧ Hid (JoinSt 16 .u16 w wr sb o ns j g cp)) (fun _ vi _ => ns.length - (intOf vi).toNat)
  case atStart => exact ⟨0, _, _, by omega, rfl, rfl, HS⟩
  case round _ _ wr =>
    obtain ⟨j, g, cp, hj, rfl, rfl, hq⟩ := hrel
    by_cases hlt : j < ns.length
    · have hc : wr.cell? ⟨sb, o + j, none⟩ = some (.int .u16 (ns[j] : Int)) := hq.out.2.2.1 j hlt
      have hn := Hns.out ns[j] (List.getElem_mem hlt)
      have Ht := Lib.hid (show (ns.take j).map (fun n => Value.string (Str (numD 16 n))) ++ [Value.string (Str (numD 16 ns[j]))] = (ns.take (j + 1)).map (fun n => Value.string (Str (numD 16 n))) by rw [List.take_succ_eq_append_getElem hlt, List.map_append]; rfl)
      generalize ns[j] = n at hc hn Ht
      have hwr : IntKind.u64.wrap (n : Int) = n := by simp only [IntKind.wrap_u64]; omega
      have Hn := Lib.hid hn
      go_wp2_with (first
        | (go_at_call 54; refine (fmt16_any n Hn.out _ (HE.out.below hq.out.2.1)).mono ?_; rintro e w2 ⟨rfl, hb2⟩; have Hq2 := Lib.hid (hq.out.below hb2); clear hb2)
        | (at_builtin; refine wpList_append_lies _ rfl (.tmp 19) (.tmp 24) 89 rfl w.heap.size 9 i0 (.string ByteArray.empty) 1 16 Tryz.underlying89 hi hz0 hz1 hz2 rfl (by decide) _ j _ rfl (Hq2.out.1.alloc _) ⟨w2.heap.size, 0, none⟩ 1 1 [.string (Str (numD 16 n))] rfl rfl (World.news_of_block (heap_alloc_new w2 _)) (by simp [Value.oneCell']) (by decide) (by unfold maxLen; omega) (by omega) (by have := Hq2.out.2.1.size; simp; omega) _ rfl ?_; intro g2 cap2 w3 hown3 hgrow3 _ _; rw [Ht.out] at hown3; have Hown3 := Lib.hid hown3; have Hgrow3 := Lib.hid hgrow3; clear hown3 hgrow3; refine Hid.out ?_))
      have hb3 : Below w.heap.size w w3 := (Hq2.out.2.1.alloc Hq2.out.2.1.size _).grown Hgrow3.out (Hq2.out.2.1.alloc Hq2.out.2.1.size _).size (fun k hk => (Hq2.out.1.lt k hk).1)
      have hr3 : RowN .u16 w3 sb o ns := fun i hi => by
        have h2 := Hq2.out.2.2.1 i hi
        have hlt2 : sb < w2.heap.size := Nat.lt_of_lt_of_le hsb Hq2.out.2.1.size
        have h2' : (w2.alloc (.cells #[.string (Str (numD 16 n))] 9)).cell? ⟨sb, o + i, none⟩ = some (.int .u16 (ns[i] : Int)) := by
          rw [((Below.refl w2.heap.size w2).alloc (Nat.le_refl _) _).cell (p := ⟨sb, o + i, none⟩) hlt2]; exact h2
        exact Hgrow3.out.cell h2' (fun hk => by have := (Hq2.out.1.lt sb hk.symm).1; omega)
      have HS3 : Hid (JoinSt 16 .u16 w w3 sb o ns (j + 1) g2 cap2) := Lib.hid ⟨Hown3.out, hb3, hr3, hsb⟩
      clear hb3 hr3
      refine Lib.hid ?_
      go_wp2_with fail
      go_roundw
      case rel => exact ⟨j + 1, g2, cap2, by omega, by go_num, rfl, HS3⟩
      case measure => simp [intOf]; omega
    · have hjj : j = ns.length := by omega
      subst hjj
      have HJ := Lib.hid (fun ho => joinL_any 16 ns 58 g cp w wr (by omega) ho)
      have Hown := Lib.hid (show wr.ownsRow w.heap.size 9 1 (.slice (some ⟨g, 0, none⟩) ns.length cp) ns.length (ns.map fun n => Value.string (Str (numD 16 n))) by have := hq.out.1; rwa [List.take_length] at this)
      go_wp2_with (go_at_call 55; refine (HJ.out Hown.out).mono ?_; rintro e w4 ⟨rfl, hb4⟩; have Hb4 := Lib.hid (bstep hq.out.2.1 hb4); clear hb4)
      go_ret
      exact ⟨rfl, Hb4.out⟩

set_option maxHeartbeats 2000000 in
set_option maxRecDepth 100000 in
theorem joinB_any (sb o cap : Nat) (ns : List Nat) (hns : ∀ n ∈ ns, n ≤ 255) (hlen : ns.length ≤ 100) (w : World) (hrow : RowN .u8 w sb o ns) (hsb : sb < w.heap.size) (h : Env w) :
    Calls Tryz.prog 34 #[.slice (some ⟨sb, o, none⟩) ns.length cap, .string (Str [46]), .int .i64 10] w fun e w' => e = .returned (.string (Str (Lib.join (ns.map (numD 10)) [46]))) ∧ Below w.heap.size w w' := by
  have HE := Lib.hid h; clear h
  obtain ⟨i0, hi, hz0, hz1, hz2⟩ := info_parts Tryz.info_strJ
  have Hns := Lib.hid hns; clear hns
  have Hrow := Lib.hid hrow; clear hrow
  have hm100 : ns.length ≤ maxLen := by unfold maxLen; omega
  go_enter Tryz.func34, Tryz.ntmps34
  go_wp2_with (at_make; refine wpList_make_own _ rfl _ _ 89 rfl w.heap.size 9 i0 (.string ByteArray.empty) 1 Tryz.underlying89 hi hz0 hz1 .i64 .i64 _ ns.length rfl rfl rfl ?c1 hm100 ?c3 ?_)
  case c1 => rw [hz2]; omega
  case c3 => exact Nat.le_refl _
  intro w1 hown hgrow
  have hbel : Below w.heap.size w w1 := (Below.refl _ _).grown hgrow (Nat.le_refl _) (fun k h => by cases h)
  clear hgrow hm100
  have HS : Hid (JoinSt 10 .u8 w w1 sb o ns 0 w.heap.size ns.length) := Lib.hid ⟨hown, hbel, Hrow.out.below hsb hbel, hsb⟩
  clear hown hbel
  go_wp2
  go_loopw [7, 15] (fun vp vi wr => ∃ (j g cp : Nat), j ≤ ns.length ∧ vi = .int .i64 (j : Int) ∧ vp = .slice (some ⟨g, 0, none⟩) j cp ∧ Hid (JoinSt 10 .u8 w wr sb o ns j g cp)) (fun _ vi _ => ns.length - (intOf vi).toNat)
  case atStart => exact ⟨0, _, _, by omega, rfl, rfl, HS⟩
  case round _ _ wr =>
    obtain ⟨j, g, cp, hj, rfl, rfl, hq⟩ := hrel
    by_cases hlt : j < ns.length
    · have hc : wr.cell? ⟨sb, o + j, none⟩ = some (.int .u8 (ns[j] : Int)) := hq.out.2.2.1 j hlt
      have hn := Hns.out ns[j] (List.getElem_mem hlt)
      have Ht := Lib.hid (show (ns.take j).map (fun n => Value.string (Str (numD 10 n))) ++ [Value.string (Str (numD 10 ns[j]))] = (ns.take (j + 1)).map (fun n => Value.string (Str (numD 10 n))) by rw [List.take_succ_eq_append_getElem hlt, List.map_append]; rfl)
      generalize ns[j] = n at hc hn Ht
      have hwr : IntKind.u64.wrap (n : Int) = n := by simp only [IntKind.wrap_u64]; omega
      have Hn := Lib.hid hn
      go_wp2_with (first
        | (go_at_call 54; refine (fmt10_any n Hn.out _ (HE.out.below hq.out.2.1)).mono ?_; rintro e w2 ⟨rfl, hb2⟩; have Hq2 := Lib.hid (hq.out.below hb2); clear hb2)
        | (at_builtin; refine wpList_append_lies _ rfl (.tmp 19) (.tmp 24) 89 rfl w.heap.size 9 i0 (.string ByteArray.empty) 1 16 Tryz.underlying89 hi hz0 hz1 hz2 rfl (by decide) _ j _ rfl (Hq2.out.1.alloc _) ⟨w2.heap.size, 0, none⟩ 1 1 [.string (Str (numD 10 n))] rfl rfl (World.news_of_block (heap_alloc_new w2 _)) (by simp [Value.oneCell']) (by decide) (by unfold maxLen; omega) (by omega) (by have := Hq2.out.2.1.size; simp; omega) _ rfl ?_; intro g2 cap2 w3 hown3 hgrow3 _ _; rw [Ht.out] at hown3; have Hown3 := Lib.hid hown3; have Hgrow3 := Lib.hid hgrow3; clear hown3 hgrow3; refine Hid.out ?_))
      have hb3 : Below w.heap.size w w3 := (Hq2.out.2.1.alloc Hq2.out.2.1.size _).grown Hgrow3.out (Hq2.out.2.1.alloc Hq2.out.2.1.size _).size (fun k hk => (Hq2.out.1.lt k hk).1)
      have hr3 : RowN .u8 w3 sb o ns := fun i hi => by
        have h2 := Hq2.out.2.2.1 i hi
        have hlt2 : sb < w2.heap.size := Nat.lt_of_lt_of_le hsb Hq2.out.2.1.size
        have h2' : (w2.alloc (.cells #[.string (Str (numD 10 n))] 9)).cell? ⟨sb, o + i, none⟩ = some (.int .u8 (ns[i] : Int)) := by
          rw [((Below.refl w2.heap.size w2).alloc (Nat.le_refl _) _).cell (p := ⟨sb, o + i, none⟩) hlt2]; exact h2
        exact Hgrow3.out.cell h2' (fun hk => by have := (Hq2.out.1.lt sb hk.symm).1; omega)
      have HS3 : Hid (JoinSt 10 .u8 w w3 sb o ns (j + 1) g2 cap2) := Lib.hid ⟨Hown3.out, hb3, hr3, hsb⟩
      clear hb3 hr3
      refine Lib.hid ?_
      go_wp2_with fail
      go_roundw
      case rel => exact ⟨j + 1, g2, cap2, by omega, by go_num, rfl, HS3⟩
      case measure => simp [intOf]; omega
    · have hjj : j = ns.length := by omega
      subst hjj
      have HJ := Lib.hid (fun ho => joinL_any 10 ns 46 g cp w wr (by omega) ho)
      have Hown := Lib.hid (show wr.ownsRow w.heap.size 9 1 (.slice (some ⟨g, 0, none⟩) ns.length cp) ns.length (ns.map fun n => Value.string (Str (numD 10 n))) by have := hq.out.1; rwa [List.take_length] at this)
      go_wp2_with (go_at_call 55; refine (HJ.out Hown.out).mono ?_; rintro e w4 ⟨rfl, hb4⟩; have Hb4 := Lib.hid (bstep hq.out.2.1 hb4); clear hb4)
      go_ret
      exact ⟨rfl, Hb4.out⟩
end Go.Proofs.YtalnfjnfcloonaaGreatDoor
