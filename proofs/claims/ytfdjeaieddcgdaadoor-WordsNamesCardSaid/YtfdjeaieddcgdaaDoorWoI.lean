/-
  WHAT IS PROVED: contract of words: the words of a text, or where there is none.
-/
import Derived.Test.YtfdjeaieddcgdaaDoorWoH
import Derived.WalkMore
import Derived.ControlIn
namespace Go.Proofs.YtfdjeaieddcgdaaDoor
open Go.RowKit Go.Shelf
attribute [local go_sem] Oper.semAt_some
set_option linter.unusedVariables false

def Res.list : Res → List WordM
  | .ok l => l
  | .bad _ _ => []
def Res.at_ : Res → Nat
  | .ok _ => 0
  | .bad a _ => a
def Res.err : Res → Nat
  | .ok _ => 0
  | .bad _ e => e
/-- what Of hands back -/
def OfRes (r : Res) (w : World) (e : Ending) (w' : World) : Prop :=
  ∃ v, e = .returned (.tuple #[v, .int .i64 (r.at_ : Int), .int .i64 (r.err : Int)]) ∧ w'.ownsRow w.heap.size 29 4 v r.list.length (cellsW r.list) ∧ Below w.heap.size w w'

theorem wpListIn_append_run {F : Fence} {n : Nat} {P : Program} (w : World) {ops : Array Oper} {rest : List Oper} {o : Oper} {a : Act} {Q : Exit → Act → World → Prop}
    (hg : o.guard = none) (s x : Operand) (t : TypeId) (hop : o.op = Op.call { callee := Callee.builtin Builtin.append, args := #[s, x], argTypes := #[t, t] })
    (v u v' : Value) (w' : World) (hs : a.eval s = v) (hx : a.eval x = u) (hrun : (Builtin.append_ #[t, t] o.type #[v, u]).run P w = .ok v' w')
    (hK : wpListIn F n P ops Q rest (a.put o.dst v') w') : wpListIn F n P ops Q (o :: rest) a w := by
  refine wpListIn_plain hg fun K hK' => ?_
  unfold Oper.wpIn
  refine ⟨?_, ?_⟩
  · simp [Oper.about, hop, resolve, Target.leads, Sem.run_pure]
  · rw [Oper.semAt_plain F _ _ (by rw [hop]; intro c hc'; cases hc')]
    simp [execOp, hop, resolve, invoke, builtin, hs, hx, hrun, Result.andThen]
    exact hK' _ _ hK

theorem TurnW.behind {w W W1 W2 : World} {v : Value} (h : Below W.heap.size W W1) (h' : TurnW w W1 W2 v) : TurnW w W W2 v :=
  ⟨Nat.le_trans h.size h'.size, h'.os.trans h.os, h'.tape.trans h.tape, h'.output.trans h.output, fun k hk hw hv => (h'.block k (Nat.lt_of_lt_of_le hk h.size) hw hv).trans (h.block k hk)⟩

theorem undbl_le : ∀ (n : Nat) (l : List UInt8), l.length ≤ n → (undbl l).length ≤ l.length
  | _, [], _ => Nat.le_refl _
  | _, [c], _ => Nat.le_refl _
  | 0, _ :: _ :: _, h => by simp at h
  | n + 1, c :: d :: r, h => by
    rw [undbl]
    split
    · have := undbl_le n r (by simp at h; omega); simp; omega
    · have := undbl_le n (d :: r) (by simpa using h); simp at this ⊢; omega
theorem word_size {p : List UInt8} {k i : Nat} {t : List UInt8} (h : wordB p = .yes k t i) (hp : p.length ≤ 4096) : t.length ≤ 4096 := by
  cases p with
  | nil => cases h
  | cons c r =>
    simp only [wordB] at h
    split at h
    · split at h
      · cases h
      · cases h; unfold Lib.toLowerA; rw [List.length_map]; exact hp
    · split at h
      · split at h
        · cases h
        · cases h; simp
      · split at h
        · split at h
          · cases h
          · cases h; omega
        · cases h; exact hp

/-- the last stores put back what lies there -/
theorem OfVal.stored {w W : World} {v : Value} {ws : List WordM} {a e : Nat} (h : OfVal w W v ws a e) (a' e' : Nat) : OfVal w (((W.setCell ⟨w.heap.size, 0, none⟩ v).setCell ⟨w.heap.size + 1, 0, none⟩ (.int .i64 (a' : Int))).setCell ⟨w.heap.size + 2, 0, none⟩ (.int .i64 (e' : Int))).drew v ws a' e' := by
  have hs := h.size
  have h1 : OfVal w (((W.setCell ⟨w.heap.size, 0, none⟩ v).setCell ⟨w.heap.size + 1, 0, none⟩ (.int .i64 (a' : Int))).setCell ⟨w.heap.size + 2, 0, none⟩ (.int .i64 (e' : Int))) v ws a' e' :=
    ⟨((h.b2.set _).other (by omega) _).other (by omega) _, ((h.b3.other (by omega) _).set _).other (by omega) _, ((h.b4.other (by omega) _).other (by omega) _).set _,
      rowW_same h.ov fun k hk => by have := h.nv k hk; rw [set_far _ _ _ _ _ (by omega), set_far _ _ _ _ _ (by omega), set_far _ _ _ _ _ (by omega)],
      ((h.below.setCell (p := ⟨w.heap.size, 0, none⟩) (Nat.le_refl _) _).setCell (p := ⟨w.heap.size + 1, 0, none⟩) (by simp) _).setCell (p := ⟨w.heap.size + 2, 0, none⟩) (by simp) _, by simpa using hs⟩
  exact h1.kept (Below.refl _ _).drew
theorem OfVal.fin {w W : World} {v : Value} {ws : List WordM} {a e D : Nat} (h : OfVal w W v ws a e) (a' e' : Nat) (hD : w.heap.size + 4 ≤ D) (hK : W.heap[D]? = some (Obj.deferred (some []))) :
    (((W.setCell ⟨w.heap.size, 0, none⟩ v).setCell ⟨w.heap.size + 1, 0, none⟩ (.int .i64 (a' : Int))).setCell ⟨w.heap.size + 2, 0, none⟩ (.int .i64 (e' : Int))).drew.heap[D]? = some (Obj.deferred (some [])) ∧
    OfVal w ((((W.setCell ⟨w.heap.size, 0, none⟩ v).setCell ⟨w.heap.size + 1, 0, none⟩ (.int .i64 (a' : Int))).setCell ⟨w.heap.size + 2, 0, none⟩ (.int .i64 (e' : Int))).drew.putObj D (.deferred none)) v ws a' e' := by
  have h1 := h.stored a' e'
  have hK1 : (((W.setCell ⟨w.heap.size, 0, none⟩ v).setCell ⟨w.heap.size + 1, 0, none⟩ (.int .i64 (a' : Int))).setCell ⟨w.heap.size + 2, 0, none⟩ (.int .i64 (e' : Int))).drew.heap[D]? = some (Obj.deferred (some [])) := by
    show (((W.setCell ⟨w.heap.size, 0, none⟩ v).setCell ⟨w.heap.size + 1, 0, none⟩ (.int .i64 (a' : Int))).setCell ⟨w.heap.size + 2, 0, none⟩ (.int .i64 (e' : Int))).heap[D]? = _
    rw [set_far _ _ _ _ _ (by omega), set_far _ _ _ _ _ (by omega), set_far _ _ _ _ _ (by omega)]; exact hK
  exact ⟨hK1, h1.grown (grownBy_putObj' _ D _) (fun r e => by cases e; exact ⟨hD, _, hK1, rfl⟩) (by omega)⟩
theorem ownBase_W {w : World} {b e size n : Nat} {v : Value} {xs : List Value} (h : w.ownsRow (b + 4) e size v n xs) : w.ownsRow b e size v n xs := by
  refine ⟨h.1, ?_⟩
  rcases h.2 with h0 | ⟨g, cap, cur, hv, hg, r⟩
  · exact .inl h0
  · exact .inr ⟨g, cap, cur, hv, by omega, r⟩

theorem of_results {fn : Func} {tmps : Array Value} {W : World} {B C D : Nat} {v x y : Value} (hres : fn.results = #[.cell 2 23, .cell 3 3, .cell 4 24])
    (h2 : tmps[2]? = some (.pointer (some ⟨B, 0, none⟩))) (h3 : tmps[3]? = some (.pointer (some ⟨C, 0, none⟩))) (h4 : tmps[4]? = some (.pointer (some ⟨D, 0, none⟩)))
    (b2 : Boxed W B 23 v) (b3 : Boxed W C 3 x) (b4 : Boxed W D 24 y) : (results fn tmps).run Tryd.prog W = .ok (.tuple #[v, x, y]) W := by
  have z2 := b2.cell
  have z3 := b3.cell
  have z4 := b4.cell
  simp [results, hres, h2, h3, h4, go_sem, z2, z3, z4]

theorem clone_any (s : ByteArray) (w : World) (hs : s.size ≤ 4096) : Calls Tryd.prog 20 #[.string s] w fun e w' => e = .returned (.string s) ∧ Below w.heap.size w w' := by
  have hC := Tryd.stringslite_Clone s w (by omega)
  go_enter Tryd.func20, Tryd.ntmps20
  go_wp2_with (go_at_call 35; refine hC.mono ?_; rintro e w1 ⟨rfl, hb1⟩)
  go_ret
  exact ⟨rfl, hb1⟩

set_option maxRecDepth 100000 in
set_option maxHeartbeats 8000000 in
theorem of_short (s : ByteArray) (w : World) (hw : Wo w) (hs : s.size ≤ 4096) :
    Calls Tryd.prog 11 #[.string s] w (OfRes (foldB s.data.toList 0 (piecesB s.data.toList)) w) := by
  refine (callsIn_wide (n := 6)).1 ?_
  refine callsIn_of_wp_marks Tryd.func11 rfl trivial ?_ rfl
  simp only [Tryd.ntmps11, List.size_toArray, List.length_cons, List.length_nil, Nat.reduceAdd, Nat.reduceSub, Array.replicate_succ, Array.replicate_zero, List.push_toArray, List.append_toArray, List.nil_append, List.cons_append]
  gi_wp2_with fail
  refine wpIn_wide.2 (wp_scope_straight ((wpIn_wide (n := 6)).1 ?_))
  gi_wp2_with fail
  refine wpIn_wide.2 (wp_label ?_)
  gi_wp2_with fail
  refine ⟨trivial, callsIn_wide.2 ((pieces_n s _).mono ?_)⟩
  rintro e w' ⟨rfl, rfl⟩
  gi_wp2_with fail
  obtain ⟨W0, hW0⟩ : ∃ W0, W0 = (((w.alloc (.cells #[.slice none 0 0] 23)).alloc (.cells #[.int .i64 0] 3)).alloc (.cells #[.int .i64 0] 24)).alloc (.cells #[.string s] 9) := ⟨_, rfl⟩
  rw [← hW0]
  have hsz : W0.heap.size = w.heap.size + 4 := by rw [hW0]; simp
  have hbW : Below w.heap.size w W0 := by
    rw [hW0]
    exact (((below_alloc w _).trans ((below_alloc _ _).mono (by simp))).trans ((below_alloc _ _).mono (by simp; omega))).trans ((below_alloc _ _).mono (by simp; omega))
  have hbn : W0.heap[w.heap.size + 3]? = some (.cells #[.string s] 9 (0, 0)) := by
    rw [hW0]
    have := heap_alloc_new (((w.alloc (.cells #[.slice none 0 0] 23)).alloc (.cells #[.int .i64 0] 3)).alloc (.cells #[.int .i64 0] 24)) (.cells #[.string s] 9)
    simpa only [World.size_alloc, Nat.add_assoc, Nat.reduceAdd] using this
  have hb2 : Boxed W0 w.heap.size 23 (.slice none 0 0) := by
    rw [hW0]; exact (((Boxed.new w _ _).alloc _).alloc _).alloc _
  have hb3 : Boxed W0 (w.heap.size + 1) 3 (.int .i64 ((0 : Nat) : Int)) := by
    rw [hW0]
    have := Boxed.new (w.alloc (.cells #[.slice none 0 0] 23)) 3 (.int .i64 0)
    rw [World.size_alloc] at this
    exact (this.alloc _).alloc _
  have hb4 : Boxed W0 (w.heap.size + 2) 24 (.int .i64 ((0 : Nat) : Int)) := by
    rw [hW0]
    have := Boxed.new ((w.alloc (.cells #[.slice none 0 0] 23)).alloc (.cells #[.int .i64 0] 3)) 24 (.int .i64 0)
    rw [World.size_alloc, World.size_alloc] at this
    exact this.alloc _
  have hinit : OfVal w W0 (.slice none 0 0) [] 0 0 := ⟨hb2, hb3, hb4, World.ownsRow_nil _ _ _ _, hbW, by omega⟩
  have hlow : ∀ wk, Below w.heap.size w wk → Wo wk := fun wk hb => hw.kept hb
  have HLOW := Lib.hid hlow
  clear hW0 hb2 hb3 hb4 hlow
  refine wpIn_rangeFunc_ownH rfl (by omega) (gf := 26) (lb := #[.pointer (some ⟨w.heap.size + 1 + 1 + 1, 0, none⟩)]) rfl trivial (enters_of Tryd.func26 (by kernel_rfl) rfl)
    (pieces_stop 5 (by omega) w.heap.size (w.heap.size + 3) s W0 (by omega) (by omega) hbn (HLOW.out _ hbW) (fun wk hb => HLOW.out wk (hbW.trans hb))) keepsW_t (keepsW_b (by omega) (by omega)) (Below.refl _ _) (fun _ => rfl)
    (InvO w s.data.toList) (OutO w s.data.toList 0) (invO_own (by omega)) (outO_own (by omega)) ⟨_, [], rfl, hinit⟩
    (fun x a' W => a' = { tmps := #[.string s, undef, .pointer (some ⟨w.heap.size, 0, none⟩), .pointer (some ⟨w.heap.size + 1, 0, none⟩), .pointer (some ⟨w.heap.size + 2, 0, none⟩), .int .i64 (x : Int), .string (s.extract x (x + extentB (s.data.toList.drop x))), undef, undef, .string s, .int .i64 (s.size : Int), .bool (decide (4096 < (s.size : Int))), .string s, .func (.func 26) #[] #[.pointer (some ⟨w.heap.size + 1 + 1 + 1, 0, none⟩)], .int .i64 (x : Int), .string (s.extract x (x + extentB (s.data.toList.drop x))), undef, undef, undef, undef, undef, undef, undef, undef, undef, undef, undef, undef, undef, undef, undef, undef, undef, undef, undef, undef, undef, undef, undef, undef, undef, undef, undef, undef], defers := [] })
    (fun x a' _ X Y row hs hg hr => hs)
    ?assign ?body ?done ?stop
  case assign =>
    rintro ll pre x W K hI hK
    dsimp only [encW]
    gi_wp2
    exact hK _ _ (KeepsFrom.refl _ _) ⟨Below.refl _ _, Nat.le_refl _, rfl⟩ hI rfl
  case body =>
    rintro ll pre x a' W hl ⟨rr, hrr⟩ ⟨v, ws, i1, i2⟩ rfl hlt
    have hlen := okL_len _ _ _ _ i1 (Nat.zero_le _)
    have hpd : (s.extract x (x + extentB (s.data.toList.drop x))).data.toList = pieceB s.data.toList x := by rw [Lib.extract_data]; unfold pieceB; congr 1; omega
    have hWd := word_any (s.extract x (x + extentB (s.data.toList.drop x))) W (HLOW.out W i2.below) (by rw [Lib.size_eq, Lib.extract_data]; simp; have := str_len s; simp at this; omega) (by rw [hpd]; exact whole_of _)
    rw [hpd] at hWd
    obtain ⟨vo, vc, rfl⟩ := rowW_slice i2.ov
    obtain ⟨py, hpy⟩ : ∃ py, s.extract x (x + extentB (s.data.toList.drop x)) = py := ⟨_, rfl⟩
    rw [hpy] at hWd ⊢
    clear hpy hpd hinit hbn hbW
    have I1 := Lib.hid i1
    have I2 := Lib.hid i2
    obtain ⟨g, hg⟩ : ∃ g, wordB (pieceB s.data.toList x) = g := ⟨_, rfl⟩
    rw [hg] at hWd
    have HG := Lib.hid hg
    clear hg i1
    have hsz2 := i2.size
    clear i2
    by_cases h24 : ws.length = 1024
    · have HST : Hid (stepB ws.length (pieceB s.data.toList x) = .no 3) := by show _ = _; unfold stepB; rw [if_pos h24]
      have hd : ((ws.length : Int) == 1024) = true := by rw [h24]; rfl
      clear h24
      cases g with
      | no e =>
        gi_wp2_with fail
        refine ⟨trivial, CallsIn.inRound _ (callsIn_wide.2 (hWd.mono ?_))⟩
        rintro e' w1 ⟨rfl, hb1⟩
        have H1 := Lib.hid (I2.out.kept hb1)
        have c2 := H1.out.b2.cell
        have c3 := H1.out.b3.cell
        have c4 := H1.out.b4.cell
        have f2 := H1.out.b2.frozen
        have f3 := H1.out.b3.frozen
        have f4 := H1.out.b4.frozen
        have HB1 := Lib.hid hb1
        have hz1 := hb1.size
        clear hb1
        have H2 := Lib.hid (H1.out.kept (below_alloc w1 (.cells #[.int .u8 0, .string ⟨#[]⟩, .int .i64 0, .int .i64 0] 29)))
        have d2 := H2.out.b2.cell
        have d3 := H2.out.b3.cell
        have d4 := H2.out.b4.cell
        have g2 := H2.out.b2.frozen
        have g3 := H2.out.b3.frozen
        have g4 := H2.out.b4.frozen
        dsimp only [gotA, gotE]
        gi_wp2_with fail
        obtain ⟨HO', HT'⟩ := OfVal.out I2.out (H1.out.kept (below_alloc w1 (.cells #[.int .u8 0, .string ⟨#[]⟩, .int .i64 0, .int .i64 0] 29))) (HB1.out.trans ((below_alloc w1 _).mono hz1)) x 3
        refine ⟨HT'.from I2.out (by omega), rfl, x, 3, fun q => ?_, HO'⟩
        rw [List.append_assoc]
        exact fold_bad _ _ _ _ _ _ _ I1.out HST.out
      | yes k t i =>
        gi_wp2_with fail
        refine ⟨trivial, CallsIn.inRound _ (callsIn_wide.2 (hWd.mono ?_))⟩
        rintro e' w1 ⟨rfl, hb1⟩
        have H1 := Lib.hid (I2.out.kept hb1)
        have c2 := H1.out.b2.cell
        have c3 := H1.out.b3.cell
        have c4 := H1.out.b4.cell
        have f2 := H1.out.b2.frozen
        have f3 := H1.out.b3.frozen
        have f4 := H1.out.b4.frozen
        have HB1 := Lib.hid hb1
        have hz1 := hb1.size
        clear hb1
        have H2 := Lib.hid (H1.out.kept (below_alloc w1 (.cells #[.int .u8 (k : Int), .string (strU t), .int .i64 (i : Int), .int .i64 0] 29)))
        have d2 := H2.out.b2.cell
        have d3 := H2.out.b3.cell
        have d4 := H2.out.b4.cell
        have g2 := H2.out.b2.frozen
        have g3 := H2.out.b3.frozen
        have g4 := H2.out.b4.frozen
        dsimp only [gotA, gotE]
        gi_wp2_with fail
        obtain ⟨HO', HT'⟩ := OfVal.out I2.out H2.out (HB1.out.trans ((below_alloc w1 _).mono hz1)) x 3
        refine ⟨HT'.from I2.out (by omega), rfl, x, 3, fun q => ?_, HO'⟩
        rw [List.append_assoc]
        exact fold_bad _ _ _ _ _ _ _ I1.out HST.out
    · have hd : ((ws.length : Int) == 1024) = false := by rw [beq_eq_false_iff_ne]; omega
      have HST : Hid (stepB ws.length (pieceB s.data.toList x) = g) := by show _ = _; unfold stepB; rw [if_neg h24, HG.out]
      cases g with
      | no e =>
        have he0 := word_no HG.out
        have hne : ((e : Int) != 0) = true := by simp; omega
        gi_wp2_with fail
        refine ⟨trivial, CallsIn.inRound _ (callsIn_wide.2 (hWd.mono ?_))⟩
        rintro e' w1 ⟨rfl, hb1⟩
        have H1 := Lib.hid (I2.out.kept hb1)
        have c2 := H1.out.b2.cell
        have c3 := H1.out.b3.cell
        have c4 := H1.out.b4.cell
        have f2 := H1.out.b2.frozen
        have f3 := H1.out.b3.frozen
        have f4 := H1.out.b4.frozen
        have HB1 := Lib.hid hb1
        have hz1 := hb1.size
        clear hb1
        have H2 := Lib.hid (H1.out.kept (below_alloc w1 (.cells #[.int .u8 0, .string ⟨#[]⟩, .int .i64 0, .int .i64 0] 29)))
        have d2 := H2.out.b2.cell
        have d3 := H2.out.b3.cell
        have d4 := H2.out.b4.cell
        have g2 := H2.out.b2.frozen
        have g3 := H2.out.b3.frozen
        have g4 := H2.out.b4.frozen
        dsimp only [gotA, gotE]
        gi_wp2_with fail
        obtain ⟨HO', HT'⟩ := OfVal.out I2.out (H1.out.kept (below_alloc w1 (.cells #[.int .u8 0, .string ⟨#[]⟩, .int .i64 0, .int .i64 0] 29))) (HB1.out.trans ((below_alloc w1 _).mono hz1)) x e
        refine ⟨HT'.from I2.out (by omega), rfl, x, e, fun q => ?_, HO'⟩
        rw [List.append_assoc]
        exact fold_bad _ _ _ _ _ _ _ I1.out HST.out
      | yes k t i =>
        have HSZ : Hid ((strU t).size ≤ 4096) := Lib.hid (by rw [strU_size]; exact word_size HG.out (by have := str_len s; unfold pieceB; simp at this ⊢; omega))
        have i2s := I2.out.size
        gi_wp2_with fail
        refine ⟨trivial, CallsIn.inRound _ (callsIn_wide.2 (hWd.mono ?_))⟩
        rintro e' w1 ⟨rfl, hb1⟩
        have H1 := Lib.hid (I2.out.kept hb1)
        have c2 := H1.out.b2.cell
        have c3 := H1.out.b3.cell
        have c4 := H1.out.b4.cell
        have f2 := H1.out.b2.frozen
        have f3 := H1.out.b3.frozen
        have f4 := H1.out.b4.frozen
        have HB1 := Lib.hid hb1
        have hz1 := hb1.size
        clear hb1
        have H2 := Lib.hid (H1.out.kept (below_alloc w1 (.cells #[.int .u8 (k : Int), .string (strU t), .int .i64 (i : Int), .int .i64 0] 29)))
        have d2 := H2.out.b2.cell
        have d3 := H2.out.b3.cell
        have d4 := H2.out.b4.cell
        have g2 := H2.out.b2.frozen
        have g3 := H2.out.b3.frozen
        have g4 := H2.out.b4.frozen
        dsimp only [gotA, gotE]
        gi_wp2_with fail
        have hnw : w1.heap.size ≠ w.heap.size := by have := i2s; omega
        refine ⟨trivial, CallsIn.inRound _ (callsIn_wide.2 ((clone_any (strU t) _ HSZ.out).mono ?_))⟩
        rintro e' w2 ⟨rfl, hb2⟩
        have HF := Lib.hid ((Four.new w1 29 (.int .u8 (k : Int)) (.string (strU t)) (.int .i64 (i : Int)) (.int .i64 0)).kept hb2)
        obtain ⟨q0, q1, q2, q3⟩ := HF.out.cells
        obtain ⟨r0, r1, r2, r3⟩ := HF.out.free
        have HW2 := Lib.hid (H2.out.kept hb2)
        have HB2 := Lib.hid hb2
        clear hb2 d2 d3 d4 g2 g3 g4 c2 c3 c4 f2 f3 f4
        have c2 := HW2.out.b2.cell
        have f2 := HW2.out.b2.frozen
        have hb3 : Below W.heap.size W ((w2.setCell ⟨w1.heap.size, 3, none⟩ (.int .i64 (x : Int))).setCell ⟨w1.heap.size, 1, none⟩ (.string (strU t))) :=
          (((HB1.out.trans ((below_alloc w1 _).mono hz1)).trans (HB2.out.mono (by simp; omega))).setCell (p := ⟨w1.heap.size, 3, none⟩) hz1 _).setCell (p := ⟨w1.heap.size, 1, none⟩) hz1 _
        obtain ⟨vo', vc', v2o, v2c, w5, hvv, hrun, hk2, hv5, ht5⟩ := (I2.out.kept hb3).app ⟨k, t, i, x⟩ hlen
        cases hvv
        simp only [WordM.cells4, World.size_setCell] at hrun
        have e2 := hk2.cell
        have g5 := hk2.frozen
        have HV5 := Lib.hid hv5
        have HT5 := Lib.hid (TurnW.behind hb3 ht5)
        clear hb3 hk2 hv5 ht5
        have HRUN := Lib.hid hrun
        clear hrun
        gi_wp2_with (gi_at_builtin; refine wpListIn_append_run _ rfl _ _ _ rfl _ _ _ _ rfl rfl HRUN.out ?_)
        exact ⟨HT5.out.from I2.out (by omega), HT5.out.keeps I2.out, _, _, okL_snoc _ _ _ _ _ _ _ _ I1.out HST.out, HV5.out⟩
  case done =>
    rintro D xs W hD rfl ⟨v, ws, i1, i2⟩ hK
    have HS : Hid (foldB s.data.toList 0 (piecesB s.data.toList) = .ok ws) := by
      show _ = _
      have := fold_ok _ _ _ _ i1
      cases hf : foldB s.data.toList 0 (piecesB s.data.toList) with
      | bad a e => rw [List.length_nil, hf] at this; cases this
      | ok q => rw [List.length_nil, hf] at this; simp [Res.behind] at this; rw [this]
    obtain ⟨vo, vc, rfl⟩ := rowW_slice i2.ov
    have c2 := i2.b2.cell
    have c3 := i2.b3.cell
    have c4 := i2.b4.cell
    have f2 := i2.b2.frozen
    have f3 := i2.b3.frozen
    have f4 := i2.b4.frozen
    have I2 := Lib.hid i2
    have HKD := Lib.hid hK
    clear i1 i2 hK hinit hbn
    gi_wp2_with fail
    refine wpIn_wide.2 ?_
    go_region
    gi_wp2
    obtain ⟨HK1, HF1⟩ := OfVal.fin I2.out 0 0 (by omega) HKD.out
    rw [Exit.noGoto_ret]
    refine ⟨by simp, .inl ⟨_, _, rfl, run_takeDeferred HK1, ?_⟩⟩
    refine ⟨.tuple #[.slice vo ws.length vc, .int .i64 (0 : Int), .int .i64 (0 : Int)], ?_, ?_⟩
    · exact of_results Tryd.results11 rfl rfl rfl HF1.b2 HF1.b3 HF1.b4
    · rw [HS.out]
      exact ⟨_, rfl, ownBase_W HF1.ov, HF1.below⟩
  case stop =>
    rintro D c pre W hD ⟨q, hq⟩ ⟨rfl, a, e, i1, i2⟩ hK
    have HS : Hid (foldB s.data.toList 0 (piecesB s.data.toList) = .bad a e) := by
      show _ = _
      rw [← hq]; exact i1 q
    have c2 := i2.b2.cell
    have c3 := i2.b3.cell
    have c4 := i2.b4.cell
    have f2 := i2.b2.frozen
    have f3 := i2.b3.frozen
    have f4 := i2.b4.frozen
    have I2 := Lib.hid i2
    have HKD := Lib.hid hK
    clear i1 i2 hK hinit hbn
    gi_wp2_with fail
    refine wpIn_wide.2 ?_
    go_region
    gi_wp2
    obtain ⟨HK1, HF1⟩ := OfVal.fin I2.out a e (by omega) HKD.out
    rw [Exit.noGoto_ret]
    refine ⟨by simp, .inl ⟨_, _, rfl, run_takeDeferred HK1, ?_⟩⟩
    refine ⟨.tuple #[.slice none 0 0, .int .i64 (a : Int), .int .i64 (e : Int)], ?_, ?_⟩
    · exact of_results Tryd.results11 rfl rfl rfl HF1.b2 HF1.b3 HF1.b4
    · rw [HS.out]
      exact ⟨_, rfl, ownBase_W HF1.ov, HF1.below⟩
end Go.Proofs.YtfdjeaieddcgdaaDoor
