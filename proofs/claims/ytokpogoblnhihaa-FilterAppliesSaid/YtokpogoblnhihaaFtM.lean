/-
  States and steps in memory.
-/
import Derived.Test.YtokpogoblnhihaaMg14
import Derived.Test.YtokpogoblnhihaaMg15
namespace Go.Proofs.Ytokpogoblnhihaa
open Go.RowKit
set_option linter.unusedVariables false
set_option linter.unusedSimpArgs false

def stC (e : Bool) (a y : Value) : List Value := [.bool e, a, y]
def spC (e : Bool) (us : Nat → Value) (g al : Bool) : List Value := [.bool e, us 1, us 2, us 3, us 4, .bool g, us 6, .bool al]
def nilF : Nat → Value := fun _ => .slice none 0 0
theorem ld_sta (a : Addr) : loadVar 24 a = aggLd 24 a := rfl
theorem st_sta (a : Addr) (v : Value) : storeVar 24 a v = aggSt 24 a v := rfl
theorem bld_sta (p : Array (Nat × Value)) : Instr.build 24 p = aggBuild 24 p := rfl
theorem ldr_sta (b o : Nat) (w : World) : (aggLd 24 ⟨b, o, none⟩).run Try.prog w = match row? w b o 3 with | some cs => .ok (.agg cs.toArray) w | none => aggLdSlow 24 b o w :=
  ld_run Try.underlying24 rfl (by kernel_rfl) b o w
theorem str_sta (b : Nat) (cs : Array Value) (w : World) : (aggSt 24 ⟨b, 0, none⟩ (.agg cs)).run Try.prog w = match free? w b 0 3 && fok cs 3 with | true => .ok () (aggW w b cs.toList) | false => aggStSlow 24 b 0 (.agg cs) w :=
  st_run (by kernel_rfl) b cs w
theorem ld_sp (a : Addr) : loadVar 28 a = aggLd 28 a := rfl
theorem st_sp (a : Addr) (v : Value) : storeVar 28 a v = aggSt 28 a v := rfl
theorem bld_sp (p : Array (Nat × Value)) : Instr.build 28 p = aggBuild 28 p := rfl
theorem ldr_sp (b o : Nat) (w : World) : (aggLd 28 ⟨b, o, none⟩).run Try.prog w = match row? w b o 8 with | some cs => .ok (.agg cs.toArray) w | none => aggLdSlow 28 b o w :=
  ld_run Try.underlying28 rfl (by kernel_rfl) b o w
theorem str_sp (b : Nat) (cs : Array Value) (w : World) : (aggSt 28 ⟨b, 0, none⟩ (.agg cs)).run Try.prog w = match free? w b 0 8 && fok cs 8 with | true => .ok () (aggW w b cs.toList) | false => aggStSlow 28 b 0 (.agg cs) w :=
  st_run (by kernel_rfl) b cs w
theorem fok_of {L : List Value} {n : Nat} (h : L.length = n) (h1 : ∀ v ∈ L, v.oneCell' = true) : fok L.toArray n = true := by
  have h2 : L.toArray.all (·.oneCell') = true := all_oneCell_toArray h1
  simp only [fok, h2, Bool.and_true]
  simp [h]
theorem stC_one {e : Bool} {a y : Value} (h1 : a.oneCell' = true) (h2 : y.oneCell' = true) : ∀ v ∈ stC e a y, v.oneCell' = true := by
  intro v hv
  simp only [stC, List.mem_cons, List.not_mem_nil, or_false] at hv
  rcases hv with rfl | rfl | rfl
  · rfl
  · exact h1
  · exact h2
theorem spC_one {e g al : Bool} {us : Nat → Value} (h : ∀ j, (us j).oneCell' = true) : ∀ v ∈ spC e us g al, v.oneCell' = true := by
  intro v hv
  simp only [spC, List.mem_cons, List.not_mem_nil, or_false] at hv
  rcases hv with rfl | rfl | rfl | rfl | rfl | rfl | rfl | rfl
  all_goals first | rfl | exact h _
theorem own_one {w : World} {b : Nat} {v : Value} {l : List AD} (h : OwnL w b v l) : v.oneCell' = true := by
  obtain ⟨h1, h2 | ⟨g, cap, cur, rfl, _⟩⟩ := h
  · rw [h2.1]; rfl
  · rfl
def fJ (j : Nat) : Int → Bool → Bool → Bool → Bool → Bool := if j = 1 then fOn else if j = 2 then fOff else if j = 3 then fFull else if j = 4 then fRest else fAsk
def apL (s : ST) (K : Int) (b : List AD) (k j : Nat) : List AD := if j = 0 then allS s b else ((allS s b).take k).filter (bySrc (fJ j) s K b)
def J6 : List Nat := [0, 1, 2, 3, 4, 6]
theorem apL_succ {s : ST} {K : Int} {b : List AD} {k : Nat} (h : k < (allS s b).length) (j : Nat) (hj : j ≠ 0) : apL s K b (k + 1) j = if bySrc (fJ j) s K b (allS s b)[k] = true then apL s K b k j ++ [(allS s b)[k]] else apL s K b k j := by
  unfold apL
  rw [if_neg hj, if_neg hj, List.take_succ_eq_append_getElem h, List.filter_append]
  by_cases hb : bySrc (fJ j) s K b (allS s b)[k] = true
  · rw [if_pos hb, List.filter_cons_of_pos hb]; rfl
  · rw [if_neg hb, List.filter_cons_of_neg hb]; simp
theorem apL_length (s : ST) (K : Int) (b : List AD) (k j : Nat) : (apL s K b k j).length ≤ (allS s b).length := by
  unfold apL
  split
  · exact Nat.le_refl _
  · exact Nat.le_trans (List.length_filter_le _ _) (by rw [List.length_take]; omega)
/-- What Apply works on: the state boxed, the result, and what is made of it in block m, whose rows grow. -/
structure StpR (w W : World) (m : Nat) (s : ST) (a y : Value) (e g al : Bool) (us : Nat → Value) (ls : Nat → List AD) : Prop where
  one : ObjAt W w.heap.size (stC s.ex a y).toArray 24
  res : ObjAt W (w.heap.size + 1) (spC false nilF false false).toArray 28
  obj : ObjAt W m (spC e us g al).toArray 28
  rows : RowsF W (m + 1) J6 us ls
  blw : Below w.heap.size w W
  lt : w.heap.size + 1 < m
theorem RowsF.nil (W : World) (base : Nat) (J : List Nat) : RowsF W base J nilF (fun _ => []) := ⟨fun j _ => ⟨OwnL.nil _ _, fun a ha => by cases ha⟩, fun i _ j _ _ b hb => by cases hb⟩
theorem StpR.start {w W : World} {s : ST} {a y : Value} (h : Bx w W (stC s.ex a y).toArray 24 (spC false nilF false false).toArray 28) (e : Bool) : StpR w (aggW (W.alloc (.cells #[.bool false, .slice none 0 0, .slice none 0 0, .slice none 0 0, .slice none 0 0, .bool false, .slice none 0 0, .bool false] 28)) W.heap.size (spC e nilF false false)) W.heap.size s a y e false false nilF (fun _ => []) :=
  ⟨keepNew h.one, keepNew h.two, newObj W _ _ rfl (spC_one fun _ => rfl), RowsF.nil _ _ _, bstep h.blw (newBlw W _ _), h.two.lt⟩
theorem StpR.below {w W W' : World} {m : Nat} {s : ST} {a y : Value} {e g al : Bool} {us : Nat → Value} {ls : Nat → List AD} (h : StpR w W m s a y e g al us ls) (hb : Below W.heap.size W W') : StpR w W' m s a y e g al us ls := ⟨obj_keep h.one hb, obj_keep h.res hb, obj_keep h.obj hb, h.rows.below hb, bstep h.blw hb, h.lt⟩
theorem StpR.flag {w W : World} {m : Nat} {s : ST} {a y : Value} {e g al e' g' al' : Bool} {us : Nat → Value} {ls : Nat → List AD} (h : StpR w W m s a y e g al us ls) (j : Nat) (x : Bool) (he : (spC e us g al).set j (.bool x) = spC e' us g' al') : StpR w (W.setCell ⟨m, j, none⟩ (.bool x)) m s a y e' g' al' us ls := by
  have hlt := h.lt
  refine ⟨h.one.other _ _ (by simp; omega), h.res.other _ _ (by simp; omega), ?_, h.rows.set (by simp) _, h.blw.setCell (p := ⟨m, j, none⟩) (by simp; omega) _, h.lt⟩
  have := h.obj.set j (.bool x)
  rwa [List.setIfInBounds_toArray, he] at this
theorem StpR.all {w W : World} {m : Nat} {s : ST} {a y : Value} {e g al : Bool} (h : StpR w W m s a y e g al nilF (fun _ => [])) {v : Value} {l : List AD} {B : Nat} (ho : OwnL W B v l) (hB : m + 1 ≤ B) (hok : ∀ x ∈ l, adOk x) : StpR w W m s a y e g al (setF nilF 0 v) (setF (fun _ => []) 0 l) := by
  refine ⟨h.one, h.res, h.obj, ⟨fun j hj => ?_, fun i hi j hj hij b => ?_⟩, h.blw, h.lt⟩
  · by_cases e : j = 0
    · subst e
      exact ⟨own_mono ho hB, hok⟩
    · rw [setF_other _ _ e, setF_other _ _ e]
      exact ⟨OwnL.nil _ _, fun a ha => by cases ha⟩
  · by_cases e : i = 0
    · subst e
      rw [setF_other _ _ (Ne.symm hij)]
      intro _ h2; cases h2
    · rw [setF_other _ _ e]
      intro h2; cases h2
/-- An append to row j, and its store. -/
theorem StpR.app {w W w3 : World} {m : Nat} {s : ST} {a y v' : Value} {e g al : Bool} {us : Nat → Value} {ls : Nat → List AD} (h : StpR w W m s a y e g al us ls) {j : Nat} (hj : j ∈ J6) (h0 : j ≠ 0) {c : AD} (o : Obj) (hg : (W.alloc o).grownBy w3 (us j).ownBlock) (hR : RowsF w3 (m + 1) J6 (setF us j v') (setF ls j (ls j ++ [c]))) :
    StpR w (w3.setCell ⟨m, j, none⟩ v') m s a y e g al (setF us j v') (setF ls j (ls j ++ [c])) ∧ ObjAt w3 m (spC e us g al).toArray 28 ∧ ObjAt w3 w.heap.size (stC s.ex a y).toArray 24 := by
  have hlt := h.lt
  have hge := (h.rows.own j hj).1.ge
  have hne : ∀ b, b ≤ m → some b ≠ (us j).ownBlock := fun b hb e => by have := (hge b e.symm).1; omega
  have k1 := (h.one.alloc o).grown hg (hne _ (by omega))
  have k2 := (h.res.alloc o).grown hg (hne _ (by omega))
  have k3 := (h.obj.alloc o).grown hg (hne _ (by omega))
  have kb : Below w.heap.size w w3 := (h.blw.alloc h.blw.size o).grown hg (by have := h.blw.size; simp; omega) (fun q hq => by have := (hge q hq).1; omega)
  refine ⟨⟨k1.other _ _ (by simp; omega), k2.other _ _ (by simp; omega), ?_, hR.set (by simp) _, kb.setCell (p := ⟨m, j, none⟩) (by simp; omega) _, h.lt⟩, k3, k1⟩
  have := k3.set j v'
  rw [List.setIfInBounds_toArray] at this
  have e1 : (spC e us g al).set j v' = spC e (setF us j v') g al := by
    simp only [J6, List.mem_cons, List.not_mem_nil, or_false] at hj
    rcases hj with rfl | rfl | rfl | rfl | rfl | rfl
    · exact absurd rfl h0
    all_goals rfl
  rwa [e1] at this
theorem StpR.cells {w W : World} {m : Nat} {s : ST} {a y : Value} {e g al : Bool} {us : Nat → Value} {ls : Nat → List AD} (h : StpR w W m s a y e g al us ls) : W.cell? ⟨w.heap.size, 0, none⟩ = some (.bool s.ex) ∧ W.cell? ⟨w.heap.size, 1, none⟩ = some a ∧ W.cell? ⟨w.heap.size, 2, none⟩ = some y :=
  ⟨by rw [ObjAt.cell h.one]; rfl, by rw [ObjAt.cell h.one]; rfl, by rw [ObjAt.cell h.one]; rfl⟩
theorem StpR.congr {w W : World} {m : Nat} {s : ST} {a y : Value} {e g al : Bool} {us : Nat → Value} {ls ms : Nat → List AD} (h : StpR w W m s a y e g al us ls) (k : ∀ j ∈ J6, ls j = ms j) : StpR w W m s a y e g al us ms := ⟨h.one, h.res, h.obj, h.rows.congr k, h.blw, h.lt⟩
theorem RowsF.mono {W : World} {base base' : Nat} {J : List Nat} {us : Nat → Value} {ls : Nat → List AD} (h : RowsF W base J us ls) (hb : base' ≤ base) : RowsF W base' J us ls := ⟨fun j hj => ⟨own_mono (h.own j hj).1 hb, (h.own j hj).2⟩, h.apart⟩
theorem RowsF.one {W : World} {base : Nat} {J : List Nat} {us : Nat → Value} {ls : Nat → List AD} (h : RowsF W base J us ls) {j : Nat} (hj : j ∈ J) : (us j).oneCell' = true := own_one (h.own j hj).1
theorem spC_one' {W : World} {base : Nat} {e g al : Bool} {us : Nat → Value} {ls : Nat → List AD} (h : RowsF W base J6 us ls) : ∀ v ∈ spC e us g al, v.oneCell' = true := by
  intro v hv
  simp only [spC, List.mem_cons, List.not_mem_nil, or_false] at hv
  rcases hv with rfl | rfl | rfl | rfl | rfl | rfl | rfl | rfl
  · rfl
  · exact h.one (by simp [J6])
  · exact h.one (by simp [J6])
  · exact h.one (by simp [J6])
  · exact h.one (by simp [J6])
  · rfl
  · exact h.one (by simp [J6])
  · rfl
theorem apL_steps {s : ST} {K : Int} {b : List AD} {k : Nat} {e : Bool} (he : s.ex = e) (h : k < (allS s b).length) {c : AD} (hc : (allS s b)[k] = c) : (apL s K b (k + 1) 1 = if fOn K e (decide (c ∈ s.on)) (decide (c ∈ s.off)) (decide (c ∈ b)) = true then apL s K b k 1 ++ [c] else apL s K b k 1) ∧ (apL s K b (k + 1) 2 = if fOff K e (decide (c ∈ s.on)) (decide (c ∈ s.off)) (decide (c ∈ b)) = true then apL s K b k 2 ++ [c] else apL s K b k 2) ∧ (apL s K b (k + 1) 3 = if fFull K e (decide (c ∈ s.on)) (decide (c ∈ s.off)) (decide (c ∈ b)) = true then apL s K b k 3 ++ [c] else apL s K b k 3) ∧ (apL s K b (k + 1) 4 = if fRest K e (decide (c ∈ s.on)) (decide (c ∈ s.off)) (decide (c ∈ b)) = true then apL s K b k 4 ++ [c] else apL s K b k 4) ∧ (apL s K b (k + 1) 6 = if fAsk K e (decide (c ∈ s.on)) (decide (c ∈ s.off)) (decide (c ∈ b)) = true then apL s K b k 6 ++ [c] else apL s K b k 6) ∧ apL s K b (k + 1) 0 = apL s K b k 0 := by
  subst he hc
  exact ⟨apL_succ h 1 (by omega), apL_succ h 2 (by omega), apL_succ h 3 (by omega), apL_succ h 4 (by omega), apL_succ h 6 (by omega), rfl⟩
/-- Beside it the source at hand, boxed in block q. -/
structure StpQ (w W : World) (m q : Nat) (s : ST) (a y : Value) (e g al : Bool) (us : Nat → Value) (ls : Nat → List AD) (c : AD) : Prop where
  st : StpR w W m s a y e g al us ls
  box : ObjAt W q (adC c).toArray 37
  off : ∀ j ∈ J6, (us j).ownBlock ≠ some q
  ne : m ≠ q
theorem StpQ.start {w W : World} {m : Nat} {s : ST} {a y : Value} {e g al : Bool} {us : Nat → Value} {ls : Nat → List AD} (h : StpR w W m s a y e g al us ls) {c : AD} (hc : adOk c) : StpQ w (aggW (W.alloc (.cells #[.bool false, .int .u8 0, .int .u8 0, .int .u8 0, .int .u8 0, .int .u8 0, .int .u8 0, .int .u8 0, .int .u8 0, .int .u8 0, .int .u8 0, .int .u8 0, .int .u8 0, .int .u8 0, .int .u8 0, .int .u8 0, .int .u8 0] 37)) W.heap.size (adC c)) m W.heap.size s a y e g al us ls c :=
  ⟨h.below (newBlw W _ _), newObj W _ _ (by rw [adC_length hc]; rfl) (addrC_one _ _), fun j hj e => by have := ((h.rows.own j hj).1.ge _ e).2; omega, Nat.ne_of_lt h.obj.lt⟩
theorem StpQ.keep {w : World} {m q : Nat} {s : ST} {a y : Value} {e g al : Bool} {us : Nat → Value} {ls : Nat → List AD} {c : AD} (W W' : World) (h : StpQ w W m q s a y e g al us ls c) (hb : Below W.heap.size W W') : StpQ w W' m q s a y e g al us ls c := ⟨h.st.below hb, obj_keep h.box hb, h.off, h.ne⟩
theorem StpQ.row {w W : World} {m q : Nat} {s : ST} {a y : Value} {e g al : Bool} {us : Nat → Value} {ls : Nat → List AD} {c : AD} (h : StpQ w W m q s a y e g al us ls c) (hc : adOk c) : row? W q 0 17 = some (adC c) := obj_re h.box (A := []) (M := adC c) (C := []) (by simp) rfl (adC_length hc)
theorem StpQ.app {w W w3 : World} {m q : Nat} {s : ST} {a y v' : Value} {e g al : Bool} {us : Nat → Value} {ls : Nat → List AD} {c : AD} (h : StpQ w W m q s a y e g al us ls c) {j : Nat} (hj : j ∈ J6) (h0 : j ≠ 0) (o : Obj) (hg : (W.alloc o).grownBy w3 (us j).ownBlock) (hR : RowsF w3 (m + 1) J6 (setF us j v') (setF ls j (ls j ++ [c]))) (hat : v'.ownBlock = (us j).ownBlock ∨ v'.ownBlock = some (W.alloc o).heap.size) (hc : adOk c) :
    StpQ w (w3.setCell ⟨m, j, none⟩ v') m q s a y e g al (setF us j v') (setF ls j (ls j ++ [c])) c ∧ ObjAt w3 m (spC e us g al).toArray 28 ∧ (w3.cell? ⟨w.heap.size, 0, none⟩ = some (.bool s.ex)) ∧ row? w3 q 0 17 = some (adC c) := by
  obtain ⟨h1, h2, h3⟩ := h.st.app hj h0 o hg hR
  have kq := (h.box.alloc o).grown hg (fun e => h.off j hj e.symm)
  refine ⟨⟨h1, kq.other _ _ (Ne.symm h.ne), fun i hi e2 => ?_, h.ne⟩, h2, by rw [ObjAt.cell h3]; rfl, obj_re kq (A := []) (M := adC c) (C := []) (by simp) rfl (adC_length hc)⟩
  by_cases ij : i = j
  · subst ij
    rw [setF_same] at e2
    rcases hat with e3 | e3
    · rw [e3] at e2; exact h.off i hi e2
    · rw [e3] at e2
      cases e2
      have := h.box.lt
      simp at this
      omega
  · rw [setF_other _ _ ij] at e2
    exact h.off i hi e2
theorem made_set (w : World) (a : Addr) (v : Value) (cs : Array Value) (t : TypeId) : ObjAt ((w.setCell a v).alloc (.cells cs t)) w.heap.size cs t := by
  have h := ObjAt.made (w.setCell a v) cs t
  rwa [World.size_setCell] at h
theorem spC_cells {W : World} {m : Nat} {e g al : Bool} {us : Nat → Value} (h : ObjAt W m (spC e us g al).toArray 28) : W.cell? ⟨m, 0, none⟩ = some (.bool e) ∧ W.cell? ⟨m, 1, none⟩ = some (us 1) ∧ W.cell? ⟨m, 2, none⟩ = some (us 2) ∧ W.cell? ⟨m, 3, none⟩ = some (us 3) ∧ W.cell? ⟨m, 4, none⟩ = some (us 4) ∧ W.cell? ⟨m, 5, none⟩ = some (.bool g) ∧ W.cell? ⟨m, 6, none⟩ = some (us 6) ∧ W.cell? ⟨m, 7, none⟩ = some (.bool al) ∧ ∀ j, W.frozen? ⟨m, j, none⟩ = false :=
  ⟨by rw [ObjAt.cell h]; rfl, by rw [ObjAt.cell h]; rfl, by rw [ObjAt.cell h]; rfl, by rw [ObjAt.cell h]; rfl, by rw [ObjAt.cell h]; rfl, by rw [ObjAt.cell h]; rfl, by rw [ObjAt.cell h]; rfl, by rw [ObjAt.cell h]; rfl, fun j => h.free j⟩
theorem bld_s15 (e : Bool) (w : World) : (aggBuild 24 #[(0, .bool e)]).run Try.prog w = .ok (.agg (stC e (.slice none 0 0) (.slice none 0 0)).toArray) w := bld_run _ _ _ (by kernel_rfl) _
theorem bld_p15 (e : Bool) (w : World) : (aggBuild 28 #[(0, .agg (stC e (.slice none 0 0) (.slice none 0 0)).toArray)]).run Try.prog w = .ok (.agg (spC e nilF false false).toArray) w := bld_run _ _ _ (by kernel_rfl) _
end Go.Proofs.Ytokpogoblnhihaa
