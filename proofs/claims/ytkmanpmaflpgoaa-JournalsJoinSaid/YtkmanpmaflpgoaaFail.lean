/-
  WHAT IS PROVED: contract of Fail: what is left of a disk.
-/
import Derived.Test.YtkmanpmaflpgoaaOpsF
import Derived.Deep.RegionHeld3
namespace Go.Proofs.Ytkmanpmaflpgoaa
open Go.RowKit Go.Lib

/-- where a file has been made that no name leads to yet -/
theorem DiskAt.moreF {w w' : World} {L : LayD} {M : DiskM} (h : DiskAt w L M) (hb : Below w.heap.size w w') {f : FileM} {B : Nat} {v' : Value} (hB : w'.heap[B]? = some (.cells #[v', .int .i64 (f.sure : Int)] 77 (0, 0)))
    (hown : w'.ownsRow w.heap.size 5 1 v' f.bytes.length (cells8 f.bytes)) (hge : w.heap.size ≤ B) (hf : f.sure ≤ f.bytes.length ∧ f.bytes.length ≤ 1048576 ∧ ∀ x ∈ f.bytes, x < 256) :
    DiskAt w' { L with fb := L.fb ++ [B], vb := L.vb ++ [v'] } { M with files := M.files ++ [f] } ∧ Moves L w { L with fb := L.fb ++ [B], vb := L.vb ++ [v'] } w' := by
  have hget : ∀ e, e ∈ M.now ∨ e ∈ M.sure → (L.fb ++ [B]).getD e.2 0 = L.fb.getD e.2 0 := fun e he => by
    have := (h.fine.id e he).1
    rw [← h.nfb] at this
    simp only [List.getD, List.getElem?_append_left this]
  have hnv : ∀ k, v'.ownBlock = some k → w.heap.size ≤ k := fun k hk => (hown.lt k hk).1
  have lb : ∀ k ∈ L.fb, k < w.heap.size := fun k hk => h.lt k (.inr (.inr (.inr (.inl hk))))
  have lv : ∀ v ∈ L.vb, ∀ k, v.ownBlock = some k → k < w.heap.size := fun v hv k hk => h.lt k (.inr (.inr (.inr (.inr ⟨v, hv, hk⟩))))
  have h' := h.below hb
  refine ⟨⟨⟨h.fine.size, h.fine.rise, h.fine.few, ?_, ?_⟩, h'.disk, ?_, ?_, h.ap, by simp [h.nfb], by simp [h.nvb], ?_, ?_, ?_⟩, ⟨hb.os, hb.tape, hb.output, hb.size, fun k hk _ => hb.block k hk, ?_, rfl⟩⟩
  · intro e he
    have := h.fine.id e he
    exact ⟨by simp; omega, this.2⟩
  · intro g hg
    rcases List.mem_append.1 hg with hg | hg
    · exact h.fine.file g hg
    · simp at hg; subst hg; exact hf
  · show World.ownsRow _ _ _ _ _ _ (ents (L.fb ++ [B]) M.now)
    rw [ents_more _ _ _ (fun e he => hget e (.inl he))]
    exact h'.now
  · show World.ownsRow _ _ _ _ _ _ (ents (L.fb ++ [B]) M.sure)
    rw [ents_more _ _ _ (fun e he => hget e (.inr he))]
    exact h'.sure
  · intro i g b v h1 h2 h3
    by_cases hi : i < M.files.length
    · have h1' : M.files[i]? = some g := by rw [← h1]; exact (List.getElem?_append_left hi).symm
      have h2' : L.fb[i]? = some b := by rw [← h2]; exact (List.getElem?_append_left (by rw [h.nfb]; exact hi)).symm
      have h3' : L.vb[i]? = some v := by rw [← h3]; exact (List.getElem?_append_left (by rw [h.nvb]; exact hi)).symm
      exact h'.file i g b v h1' h2' h3'
    · have hi2 : i = M.files.length := by
        have := (List.getElem?_eq_some_iff.1 h1).1
        simp at this; omega
      subst hi2
      have e1 : (L.fb ++ [B])[M.files.length]? = some B := by rw [← h.nfb]; simp
      have e2 : (L.vb ++ [v'])[M.files.length]? = some v' := by rw [← h.nvb]; simp
      have e3 : (M.files ++ [f])[M.files.length]? = some f := by simp
      have h1' : (M.files ++ [f])[M.files.length]? = some g := h1
      have h2' : (L.fb ++ [B])[M.files.length]? = some b := h2
      have h3' : (L.vb ++ [v'])[M.files.length]? = some v := h3
      rw [e3] at h1'; rw [e1] at h2'; rw [e2] at h3'
      cases h1'; cases h2'; cases h3'
      exact ⟨hB, ownsRow_base hown (fun _ _ => Nat.zero_le _)⟩
  · intro i j b hi hj
    have hi' : (L.fb ++ [B])[i]? = some b := hi
    have hj' : (L.fb ++ [B])[j]? = some b := hj
    rw [List.getElem?_append] at hi' hj'
    split at hi'
    · split at hj'
      · exact h.fbs i j b hi' hj'
      · simp only [List.getElem?_singleton] at hj'
        split at hj'
        · simp at hj'; have := lb b (List.mem_of_getElem? hi'); omega
        · simp at hj'
    · split at hj'
      · simp only [List.getElem?_singleton] at hi'
        split at hi'
        · simp at hi'; have := lb b (List.mem_of_getElem? hj'); omega
        · simp at hi'
      · simp only [List.getElem?_singleton] at hi' hj'
        split at hi' <;> split at hj' <;> simp at hi' hj'
        omega
  · intro i j v u k hi hj hv hu
    have hi' : (L.vb ++ [v'])[i]? = some v := hi
    have hj' : (L.vb ++ [v'])[j]? = some u := hj
    rw [List.getElem?_append] at hi' hj'
    split at hi'
    · split at hj'
      · exact h.vbs i j v u k hi' hj' hv hu
      · simp only [List.getElem?_singleton] at hj'
        split at hj'
        · cases hj'
          have := hnv k hu
          have := lv v (List.mem_of_getElem? hi') k hv
          omega
        · simp at hj'
    · simp only [List.getElem?_singleton] at hi'
      split at hi'
      · cases hi'
        split at hj'
        · have := hnv k hv
          have := lv u (List.mem_of_getElem? hj') k hu
          omega
        · simp only [List.getElem?_singleton] at hj'
          split at hj' <;> simp at hj'
          omega
      · simp at hi'
  · rintro k (hk | hk | hk | hk | ⟨v, hv, hk⟩)
    · exact .inl (.inl hk)
    · exact .inl (.inr (.inl hk))
    · exact .inl (.inr (.inr (.inl hk)))
    · rcases List.mem_append.1 hk with hk | hk
      · exact .inl (.inr (.inr (.inr (.inl hk))))
      · simp at hk; exact .inr (by omega)
    · rcases List.mem_append.1 hv with hv | hv
      · exact .inl (.inr (.inr (.inr (.inr ⟨v, hv, hk⟩))))
      · simp at hv; subst hv; exact .inr (hnv k hk)

theorem numbered_next (l : Dir) (k : Nat) (e : ByteArray × Nat) (h : l[k]? = some e) : numbered (l.take (k + 1)) = numbered (l.take k) ++ [(e.1, k)] := by
  have hk := (List.getElem?_eq_some_iff.1 h).1
  have e1 : (l.take (k + 1)).length = k + 1 := by rw [List.length_take]; omega
  have e2 : (l.take k).length = k := by rw [List.length_take]; omega
  unfold numbered
  rw [e1, e2, List.range_succ, List.map_append]
  congr 1
  · apply List.map_congr_left
    intro i hi
    have hi := List.mem_range.1 hi
    simp only [List.getD, List.getElem?_take]
    rw [if_pos (by omega), if_pos hi]
  · simp only [List.map_cons, List.map_nil, List.getD, List.getElem?_take]
    rw [if_pos (by omega), h]; rfl

theorem numbered_length (l : Dir) : (numbered l).length = l.length := by simp [numbered]
theorem numbered_names (l : Dir) : (numbered l).map (·.1) = l.map (·.1) := by
  apply List.ext_getElem?
  intro i
  by_cases hi : i < l.length
  · simp [numbered, hi]
  · simp [numbered, hi]
theorem rise_numbered {l : Dir} (h : Rise l) : Rise (numbered l) := by
  have key : ∀ l' : Dir, Rise l' ↔ (l'.map (·.1)).Pairwise fun a b => cmpS a b < 0 := fun l' => by unfold Rise; rw [List.pairwise_map]
  rw [key, numbered_names, ← key]; exact h
theorem numbered_mem {l : Dir} {e : ByteArray × Nat} (h : e ∈ numbered l) : e.2 < l.length ∧ ∃ x ∈ l, x.1 = e.1 := by
  obtain ⟨i, hi, rfl⟩ := List.mem_map.1 h
  have hi := List.mem_range.1 hi
  exact ⟨hi, l[i], List.getElem_mem hi, by simp [List.getD, hi]⟩
theorem rise_take {l : Dir} (h : Rise l) (k : Nat) : Rise (l.take k) := List.Pairwise.sublist (List.take_sublist _ _) h

/-- what has been laid of it so far -/
def partM (M : DiskM) (keep : Nat) (l : Dir) (k : Nat) : DiskM := ⟨M.size, numbered (l.take k), [], (l.take k).map fun e => (M.file e.2).left keep⟩

theorem partM_files (M : DiskM) (keep : Nat) (l : Dir) (k : Nat) (h : k ≤ l.length) : (partM M keep l k).files.length = k := by simp [partM, h]
theorem partM_now (M : DiskM) (keep : Nat) (l : Dir) (k : Nat) (h : k ≤ l.length) : (partM M keep l k).now.length = k := by simp [partM, numbered_length, h]

theorem left_fine {M : DiskM} (h : M.Fine) (f keep : Nat) (hf : f < M.files.length) : ((M.file f).left keep).sure ≤ ((M.file f).left keep).bytes.length ∧ ((M.file f).left keep).bytes.length ≤ 1048576 ∧ ∀ x ∈ ((M.file f).left keep).bytes, x < 256 := by
  have hm : M.file f ∈ M.files := by simp [DiskM.file, List.getD, hf]
  obtain ⟨h1, h2, h3⟩ := h.file _ hm
  refine ⟨?_, ?_, fun x hx => h3 x (List.mem_of_mem_take hx)⟩
  · show min (M.file f).bytes.length ((M.file f).sure + keep) ≤ ((M.file f).bytes.take ((M.file f).sure + keep)).length
    rw [List.length_take]; omega
  · show ((M.file f).bytes.take ((M.file f).sure + keep)).length ≤ _
    rw [List.length_take]; omega

theorem partM_fine {M : DiskM} (hM : M.Fine) {l : Dir} (hr : Rise l) (hl : l.length ≤ 64) (hi : ∀ e ∈ l, e.2 < M.files.length ∧ okName e.1 = true) (keep k : Nat) (hk : k ≤ l.length) : (partM M keep l k).Fine where
  size := hM.size
  rise := ⟨rise_numbered (rise_take hr k), List.Pairwise.nil⟩
  few := ⟨by rw [partM_now _ _ _ _ hk]; omega, Nat.zero_le _⟩
  id := fun e he => by
    rcases he with he | he
    · obtain ⟨h1, x, hx, h2⟩ := numbered_mem he
      rw [partM_files _ _ _ _ hk]
      exact ⟨by rw [List.length_take] at h1; omega, h2 ▸ (hi x (List.mem_of_mem_take hx)).2⟩
    · exact absurd he List.not_mem_nil
  file := fun f hf => by
    obtain ⟨e, he, rfl⟩ := List.mem_map.1 hf
    exact left_fine hM _ _ (hi e (List.mem_of_mem_take he)).1

/-- what stands ahead of a round of Fail's loop -/
def FaRel (M : DiskM) (keep : Nat) (l : Dir) (w : World) (R k : Nat) (wr : World) : Prop :=
  Below w.heap.size w wr ∧ ∃ L' : LayD, L'.d = R ∧ DiskAt wr L' (partM M keep l k) ∧ ∀ b, L'.own b → w.heap.size ≤ b

theorem below_of_drew {w w' : World} (h : Below w.drew.heap.size w.drew w') : Below w.heap.size w w' := ⟨h.os, h.tape, h.output, h.size, h.block⟩

/-- a call of a Go function, met by its contract, as one step of a region that draws -/
theorem step_call {P : Program} {ops : Array Oper} {o : Oper} {a : Act} {w : World} {K : Act → World → Prop} {Q : Exit → Act → World → Prop} {E : Prop}
    (hw : Region.wanted o (yielded ops a.tmps) = true) (f : FuncId) (xs : Array Operand) (ts : Array TypeId) (ho : o.op = .call { callee := .value (.func f), args := xs, argTypes := ts })
    (vs : Array Value) (hvs : xs.map a.eval = vs) (hf : ∀ w, (callFunc f vs).run P w = .ok (.enter f vs) w) (R : Value → World → Prop) (hc : Calls P f vs w fun e w' => ∃ v, e = .returned v ∧ R v w')
    (h : ∀ v w', R v w' → K (a.put o.dst v) w') : if Region.wanted o (yielded ops a.tmps) = true then Oper.wp P o a w K Q else E := by
  rw [if_pos hw]
  unfold Oper.wp
  simp only [execOp, ho, resolve, invoke, Sem.run_bind]
  have he : a.eval (.func f) = .func (.func f) #[] #[] := rfl
  rw [he, hvs]
  simp only [Deferred.ofValue, Sem.run_pure, Result.andThen_ok, Array.empty_append, Array.append_empty, hf]
  exact hc.mono fun e w' ⟨v, he, hr⟩ => by subst he; exact h v w' hr

theorem step_call2 {P : Program} {ops : Array Oper} {o : Oper} {a : Act} {w : World} {K : Act → World → Prop} {Q : Exit → Act → World → Prop} {E : Prop}
    (hw : Region.wanted o (yielded ops a.tmps) = true) (f : FuncId) (x y : Operand) (ts : Array TypeId) (ho : o.op = .call { callee := .value (.func f), args := #[x, y], argTypes := ts })
    (u v : Value) (hx : a.eval x = u) (hy : a.eval y = v) (hf : ∀ w, (callFunc f #[u, v]).run P w = .ok (.enter f #[u, v]) w) (R : Value → World → Prop) (hc : Calls P f #[u, v] w fun e w' => ∃ v, e = .returned v ∧ R v w')
    (h : ∀ v w', R v w' → K (a.put o.dst v) w') : if Region.wanted o (yielded ops a.tmps) = true then Oper.wp P o a w K Q else E :=
  step_call hw f #[x, y] ts ho #[u, v] (by simp [hx, hy]) hf R hc h

/-- what the round reads before it writes -/
def Loads3 (x : World) (R E : Nat) (u v t : Value) : Prop := x.cell? ⟨R, 1, none⟩ = some u ∧ x.cell? ⟨E, 0, none⟩ = some v ∧ x.cell? ⟨E, 1, none⟩ = some t
theorem Loads3.below {x y : World} {R E : Nat} {u v t : Value} (h : Loads3 x R E u v t) (hb : Below x.heap.size x y) : Loads3 y R E u v t :=
  ⟨(hb.cell (p := ⟨R, 1, none⟩) (World.block_lt_of_cell? x _ h.1)).trans h.1, (hb.cell (p := ⟨E, 0, none⟩) (World.block_lt_of_cell? x _ h.2.1)).trans h.2.1, (hb.cell (p := ⟨E, 1, none⟩) (World.block_lt_of_cell? x _ h.2.2)).trans h.2.2⟩

/-- append of one entry that has just been laid, as one step of a region that draws -/
theorem step_append_ent {w : World} {ops : Array Oper} {o : Oper} {a : Act} {K : Act → World → Prop} {Q : Exit → Act → World → Prop} {E : Prop} (hw : Region.wanted o (yielded ops a.tmps) = true) (s x : Operand)
    (ho : o.op = .call { callee := .builtin .append, args := #[s, x], argTypes := #[27, 27] })
    (v : Value) (k : Nat) (xs : List Value) (hs : a.eval s = v) (hown : w.ownsRow 0 72 2 v k xs) (B cap : Nat) (nm : ByteArray) (p : Value) (hx : a.eval x = .slice (some ⟨B, 0, none⟩) 1 cap) (hB : w.heap[B]? = some (.cells #[.string nm, p] 72 (0, 0))) (hp : p.oneCell' = true) (hk : k ≤ 1000)
    (h : ∀ v' w', w'.ownsRow 0 72 2 v' (k + 1) (xs ++ [.string nm, p]) → w.grownBy w' v.ownBlock → (v'.ownBlock = v.ownBlock ∨ ∃ b, v'.ownBlock = some b ∧ w.heap.size ≤ b) → K (a.put o.dst v') w') :
    if Region.wanted o (yielded ops a.tmps) = true then Oper.wp Try.prog o a w K Q else E := by
  rw [if_pos hw]
  obtain ⟨v', w', hr, h2, h3, h4⟩ := run_append_ents (w := w) 27 27 o.type u26 u26 0 v k xs hown (some ⟨B, 0, none⟩) 1 cap [.string nm, p] rfl (fun h => by simp at h)
    (fun ad had => by obtain rfl := Option.some.inj had; exact two_cells hB) (fun u hu => by simp at hu; rcases hu with rfl | rfl; rfl; exact hp) (by omega) (Nat.zero_le _)
  exact wp_append_run w s x 27 27 ho v _ hs hx v' w' hr (h v' w' h2 h3 h4)

theorem partM_next (M : DiskM) (keep : Nat) (l : Dir) (k : Nat) (e : ByteArray × Nat) (h : l[k]? = some e) :
    partM M keep l (k + 1) = { { partM M keep l k with files := (partM M keep l k).files ++ [(M.file e.2).left keep] } with now := (partM M keep l k).now ++ [(e.1, k)] } := by
  unfold partM
  rw [numbered_next l k e h, List.take_add_one, h]
  simp

/-- a round of Fail's loop, as it is for the new disk: a file of its own, and an entry that leads to it -/
theorem fail_round {M : DiskM} (hM : M.Fine) {l : Dir} (hr : Rise l) (hl : l.length ≤ 64) (hi : ∀ e ∈ l, e.2 < M.files.length ∧ okName e.1 = true) {keep k : Nat} {e : ByteArray × Nat} (he : l[k]? = some e)
    {w0 : World} {L' : LayD} {w1 w2 w3 w4 : World} (hd : DiskAt w1 L' (partM M keep l k)) (hown : ∀ b, L'.own b → w0.heap.size ≤ b) (h0 : Below w0.heap.size w0 w1)
    (hb2 : Below w1.heap.size w1 w2) {B : Nat} {v : Value} (hB : w2.heap[B]? = some (.cells #[v, .int .i64 (((M.file e.2).left keep).sure : Int)] 77 (0, 0))) (hv : w2.ownsRow w1.heap.size 5 1 v ((M.file e.2).left keep).bytes.length (cells8 ((M.file e.2).left keep).bytes)) (hge : w1.heap.size ≤ B)
    (hb3 : Below w2.heap.size w2 w3) {v' : Value} (ho : w4.ownsRow 0 72 2 v' (k + 1) (ents L'.fb (partM M keep l k).now ++ [.string e.1, .pointer (some ⟨B, 0, none⟩)])) (hg : w3.grownBy w4 L'.vn.ownBlock) (hv' : v'.ownBlock = L'.vn.ownBlock ∨ ∃ b, v'.ownBlock = some b ∧ w3.heap.size ≤ b) :
    FaRel M keep l w0 L'.d (k + 1) (w4.setCell ⟨L'.d, 1, none⟩ v') ∧ w4.cell? ⟨L'.d, 1, none⟩ = some L'.vn ∧ w4.frozen? ⟨L'.d, 1, none⟩ = false := by
  have hk := (List.getElem?_eq_some_iff.1 he).1
  have hid := (hi e (List.mem_of_getElem? he)).1
  obtain ⟨h2, m2⟩ := hd.moreF hb2 hB hv hge (left_fine hM e.2 keep hid)
  have h3 := h2.below hb3
  have hfk : L'.fb.length = k := by rw [hd.nfb, partM_files _ _ _ _ (by omega)]
  have hget : (L'.fb ++ [B]).getD k 0 = B := by simp [List.getD, ← hfk]
  have hents : ents (L'.fb ++ [B]) ((partM M keep l k).now ++ [(e.1, k)]) = ents L'.fb (partM M keep l k).now ++ [.string e.1, .pointer (some ⟨B, 0, none⟩)] := by
    rw [ents_append, ents_more L'.fb (L'.fb ++ [B]) _ (fun x hx => by
      have := (hd.fine.id x (.inl hx)).1
      rw [← hd.nfb] at this
      simp only [List.getD, List.getElem?_append_left this])]
    congr 1
    rw [ents_cons, hget]; simp [ents]
  have hlen : ((partM M keep l k).now ++ [(e.1, k)]).length = k + 1 := by rw [List.length_append, partM_now _ _ _ _ (by omega)]; rfl
  have hfine := partM_fine hM hr hl hi keep (k + 1) (by omega)
  rw [partM_next M keep l k e he] at hfine
  obtain ⟨h4, m4⟩ := h3.store (v' := v') (now' := (partM M keep l k).now ++ [(e.1, k)]) hg (by rw [hlen]; show World.ownsRow _ _ _ _ _ _ (ents (L'.fb ++ [B]) _); rw [hents]; exact ho) hv' hfine
  have hold := h3.after hg
  refine ⟨⟨?_, ⟨L'.d, v', L'.vs, L'.fb ++ [B], L'.vb ++ [v]⟩, rfl, ?_, ?_⟩, hold⟩
  · have b1 := m2.below (base := w0.heap.size) h0.size hown
    have o2 := m2.from (base := w0.heap.size) h0.size hown
    have b3 : Below w0.heap.size w2 w3 := hb3.mono (Nat.le_trans h0.size m2.size)
    have hs3 : w0.heap.size ≤ w3.heap.size := Nat.le_trans h0.size (Nat.le_trans m2.size hb3.size)
    exact ((h0.trans b1).trans b3).trans (m4.below hs3 o2)
  · rw [partM_next M keep l k e he]; exact h4
  · have o2 := m2.from (base := w0.heap.size) h0.size hown
    have hs3 : w0.heap.size ≤ w3.heap.size := Nat.le_trans h0.size (Nat.le_trans m2.size hb3.size)
    exact m4.from hs3 o2

theorem fail_nil (keep n : Value) (w : World) : Calls Try.prog 22 #[.pointer none, keep, n] w fun e w' => e = .returned (.tuple #[.pointer none, .int .i64 2]) ∧ w = w' := by
  go_enter Try.func22, Try.ntmps22
  go_wp2_with fail
  refine (none_nil w).mono ?_
  rintro e w' ⟨rfl, rfl⟩
  go_wp2
  go_ret2
  exact ⟨rfl, rfl⟩
theorem fail_zero (d : Nat) (keep n : Value) (w : World) (hc : w.cell? ⟨d, 0, none⟩ = some (.int .i64 0)) : Calls Try.prog 22 #[.pointer (some ⟨d, 0, none⟩), keep, n] w fun e w' => e = .returned (.tuple #[.pointer none, .int .i64 2]) ∧ w = w' := by
  go_enter Try.func22, Try.ntmps22
  go_wp2_with fail
  refine (none_zero d w hc).mono ?_
  rintro e w' ⟨rfl, rfl⟩
  go_wp2
  go_ret2
  exact ⟨rfl, rfl⟩
theorem fail_neg (L : LayD) (M : DiskM) (keep : Int) (names : Bool) (w : World) (h : DiskAt w L M) (hk : keep < 0) :
    Calls Try.prog 22 #[.pointer (some ⟨L.d, 0, none⟩), .int .i64 keep, .bool names] w fun e w' => e = .returned (.tuple #[.pointer none, .int .i64 1]) ∧ w = w' := by
  have hc := h.cell0
  have hsz := h.fine.size.1
  clear h
  go_enter Try.func22, Try.ntmps22
  go_wp2_with fail
  refine (none_no L.d M.size w hc hsz).mono ?_
  rintro e w' ⟨rfl, rfl⟩
  go_wp2
  go_ret2
  exact ⟨rfl, rfl⟩

theorem failM_eq (M : DiskM) (keep : Nat) (names : Bool) : M.failM keep names = { partM M keep (if names then M.now else M.sure) (if names then M.now else M.sure).length with sure := (partM M keep (if names then M.now else M.sure) (if names then M.now else M.sure).length).now } := by
  unfold DiskM.failM partM
  simp

set_option maxRecDepth 100000 in
set_option maxHeartbeats 8000000 in
theorem fail_any (L : LayD) (M : DiskM) (keep : Nat) (names : Bool) (w : World) (h : DiskAt w L M) (hk : keep ≤ 9223372036854775807) :
    Calls Try.prog 22 #[.pointer (some ⟨L.d, 0, none⟩), .int .i64 keep, .bool names] w (NewDisk (M.failM keep names) w) := by
  have H := Lib.hid h
  have hk0 := hk
  have hc := h.cell0
  have hsz := h.fine.size.1
  have hc1 := h.cell1
  have hc2 := h.cell2
  obtain ⟨l, hl⟩ : ∃ l, l = if names then M.now else M.sure := ⟨_, rfl⟩
  obtain ⟨vl, hvl⟩ : ∃ vl, vl = if names then L.vn else L.vs := ⟨_, rfl⟩
  have hE : RowE w L.fb vl l := by
    rw [hl, hvl]; cases names
    · exact rowE_of h.sure
    · exact rowE_of h.now
  have hfew : l.length ≤ 64 := by rw [hl]; cases names; exact h.fine.few.2; exact h.fine.few.1
  have hrise : Rise l := by rw [hl]; cases names; exact h.fine.rise.2; exact h.fine.rise.1
  have hid : ∀ e ∈ l, e.2 < M.files.length ∧ okName e.1 = true := fun e he => h.fine.id e (by rw [hl] at he; cases names; exact .inr he; exact .inl he)
  have hmem : ∀ e ∈ l, e ∈ M.now ∨ e ∈ M.sure := fun e he => by rw [hl] at he; cases names; exact .inr he; exact .inl he
  have HE := Lib.hid hE
  have HRI := Lib.hid hrise
  have HID := Lib.hid hid
  have HMEM := Lib.hid hmem
  have HLQ := Lib.hid hl
  have HVQ := Lib.hid hvl
  obtain ⟨ao, cap, hvs⟩ : ∃ ao cap, vl = .slice ao l.length cap := by obtain ⟨ao, cap, h, _⟩ := hE; exact ⟨ao, cap, h⟩
  have HVS := Lib.hid hvs
  obtain ⟨an, cn, hvn⟩ := own_slice h.now
  obtain ⟨ax, cs, hvss⟩ := own_slice h.sure
  have hnow : names = true → L.vn = vl := fun hn => by rw [hvl, hn]; rfl
  have hsure : names = false → L.vs = vl := fun hn => by rw [hvl, hn]; rfl
  have HN := Lib.hid hnow
  have HS := Lib.hid hsure
  have h0new : DiskAt (w.alloc (.cells #[.int .i64 (M.size : Int), .slice none 0 0, .slice none 0 0] 29)) ⟨w.heap.size, .slice none 0 0, .slice none 0 0, [], []⟩ (partM M keep l 0) :=
    ⟨partM_fine h.fine hrise hfew hid keep 0 (Nat.zero_le _), heap_alloc_new w _, World.ownsRow_nil _ _ _ _, World.ownsRow_nil _ _ _ _, fun k hk => by simp [Value.ownBlock] at hk, rfl, rfl, fun i f b v hf => by simp [partM] at hf, fun i j b hi => by simp at hi, fun i j v v' k hi => by simp at hi⟩
  have hown0 : ∀ k, (⟨w.heap.size, .slice none 0 0, .slice none 0 0, [], []⟩ : LayD).own k → w.heap.size ≤ k := by
    rintro k (rfl | hk | hk | hk | ⟨v, hv, _⟩)
    · exact Nat.le_refl _
    · simp [Value.ownBlock] at hk
    · simp [Value.ownBlock] at hk
    · simp at hk
    · simp at hv
  have HR0 : Hid (FaRel M keep l w w.heap.size 0 (w.alloc (.cells #[.int .i64 (M.size : Int), .slice none 0 0, .slice none 0 0] 29))) := ⟨below_alloc w _, _, rfl, h0new, hown0⟩
  have hfin : ∀ (wf : World) (v' : Value) (L' : LayD) (wr : World), Below w.heap.size w wr → DiskAt wr L' (partM M keep l l.length) → (∀ b, L'.own b → w.heap.size ≤ b) → Below wr.heap.size wr wf → wf.ownsRow wr.heap.size 72 2 v' (partM M keep l l.length).now.length (ents L'.fb (partM M keep l l.length).now) →
      NewDisk (M.failM keep names) w (.returned (.tuple #[.pointer (some ⟨L'.d, 0, none⟩), .int .i64 0])) (wf.setCell ⟨L'.d, 2, none⟩ v') := by
    intro wf v' L' wr hb hd ho hb2 hv
    obtain ⟨r1, r2⟩ := hd.storeSure hb2 hv ⟨hd.fine.size, ⟨hd.fine.rise.1, hd.fine.rise.1⟩, ⟨hd.fine.few.1, hd.fine.few.1⟩, fun e he => hd.fine.id e (.inl (by rcases he with he | he <;> exact he)), hd.fine.file⟩
    refine ⟨{ L' with vs := v' }, rfl, ?_, r2.from hb.size ho, hb.trans (r2.below hb.size ho)⟩
    rw [failM_eq, ← HLQ.out]; exact r1
  have HFIN := Lib.hid hfin
  clear h hl hE hrise hid hmem hnow hsure h0new hown0 hvs hfin
  cases names
  all_goals
    simp only [Bool.false_eq_true, if_false, if_true] at hvl
    rw [hvn] at hc1
    rw [hvss] at hc2
    have hvq := HVS.out
    rw [hvl] at hvq
    first | rw [hvn] at hvq | rw [hvss] at hvq
    simp only [Value.slice.injEq] at hvq
    obtain ⟨e1, e2, e3⟩ := hvq
    subst e1 e3
    go_enter Try.func22, Try.ntmps22
    go_wp2_with fail
    refine (none_no L.d M.size w hc hsz).mono ?_
    rintro e w' ⟨rfl, rfl⟩
    go_wp2
    clear hc hc1 hc2
    go_loopw [11, 35] (fun _ i wr => ∃ k : Nat, k ≤ l.length ∧ i = .int .i64 k ∧ Hid (FaRel M keep l w w.heap.size k wr)) (fun _ i _ => l.length - (RowKit.intOf i).toNat)
    case atStart => exact ⟨0, by omega, rfl, HR0⟩
    case round =>
      obtain ⟨k, hk, rfl, HF⟩ := hrel
      obtain ⟨hB, L', hLd, hD, hO⟩ := HF.out
      have HB := Lib.hid hB
      have HD := Lib.hid hD
      have HOO := Lib.hid hO
      have HLD := Lib.hid hLd
      clear hB hD hO hLd
      by_cases hlt : k < l.length
      · obtain ⟨e, he⟩ : ∃ e, l[k]? = some e := ⟨l[k], by simp [hlt]⟩
        obtain ⟨g, cap', hv, hc3, hc4, hcell⟩ := (HE.out.kept HB.out).lies (by omega)
        rw [HVS.out] at hv
        simp only [Value.slice.injEq, true_and] at hv
        obtain ⟨rfl, rfl⟩ := hv
        obtain ⟨hx1, hx2⟩ := hcell _ e he
        have H1 := H.out.below HB.out
        obtain ⟨v, hf1, hf2, hf3, hf4, hf5, _⟩ := H1.of (HMEM.out e (List.mem_of_getElem? he))
        have HEE := Lib.hid he
        obtain ⟨W1, hW1⟩ : ∃ W1, W1 = wr.alloc (.cells #[.string e.1, .pointer (some ⟨L.fb.getD e.2 0, 0, none⟩)] 72) := ⟨_, rfl⟩
        have hb1 : Below wr.heap.size wr W1 := by rw [hW1]; exact below_alloc wr _
        have hE0 : W1.cell? ⟨wr.heap.size, 0, none⟩ = some (.string e.1) := by rw [hW1]; exact cell_of_block (heap_alloc_new wr _) 0
        have hE1 : W1.cell? ⟨wr.heap.size, 1, none⟩ = some (.pointer (some ⟨L.fb.getD e.2 0, 0, none⟩)) := by rw [hW1]; exact cell_of_block (heap_alloc_new wr _) 1
        have hD1 := HD.out.below hb1
        have hR := hD1.cell1
        obtain ⟨ao3, cap3, hvn3⟩ := own_slice hD1.now
        rw [partM_now _ _ _ _ (by omega)] at hvn3
        rw [hvn3, HLD.out] at hR
        have hff1 : W1.heap[L.fb.getD e.2 0]? = some (.cells #[v, .int .i64 ((M.file e.2).sure : Int)] 77 (0, 0)) := (hb1.block _ (lt_of_block hf1)).trans hf1
        have hff2 : W1.ownsRow 0 5 1 v (M.file e.2).bytes.length (cells8 (M.file e.2).bytes) := ownsRow_same hf2 (fun q hq => hb1.block q (hf2.lt q hq).2)
        generalize L.fb.getD e.2 0 = fbi at *
        obtain ⟨en, ei⟩ := e
        have HFF1 := Lib.hid hff1
        have HFF2 := Lib.hid hff2
        have HF5 := Lib.hid hf5
        have HD1 := Lib.hid hD1
        have HB1 := Lib.hid hb1
        have HWQ := Lib.hid hW1
        have HV3 := Lib.hid hvn3
        clear hcell he H1 hf1 hf2 hf5 hff1 hff2 hD1 hb1 hvn3
        simp only at hW1
        go_wp2_with fail
        rw [← hW1]
        clear hW1
        have HRD := Lib.hid HLD.out
        have hpk := partM_now M keep l k hk
        have HPK := Lib.hid hpk
        clear hpk hx1 hx2
        have hfr : ∀ (w3 : World) (B : Nat) (v4 v5 : Value) (w5 : World), w3.heap[B]? = some (.cells #[v4, .int .i64 (((M.file ei).left keep).sure : Int)] 77 (0, 0)) → w3.ownsRow W1.heap.size 5 1 v4 ((M.file ei).left keep).bytes.length (cells8 ((M.file ei).left keep).bytes) →
            W1.heap.size ≤ B → Below W1.heap.size W1 w3 → w5.ownsRow 0 72 2 v5 (k + 1) (ents L'.fb (partM M keep l k).now ++ [.string en, .pointer (some ⟨B, 0, none⟩)]) → (w3.alloc (.cells #[.string en, .pointer (some ⟨B, 0, none⟩)] 72)).grownBy w5 (Value.slice ao3 k cap3).ownBlock →
            (v5.ownBlock = (Value.slice ao3 k cap3).ownBlock ∨ ∃ b, v5.ownBlock = some b ∧ (w3.alloc (.cells #[.string en, .pointer (some ⟨B, 0, none⟩)] 72)).heap.size ≤ b) →
            FaRel M keep l w w.heap.size (k + 1) (w5.setCell ⟨w.heap.size, 1, none⟩ v5) ∧ w5.cell? ⟨w.heap.size, 1, none⟩ = some (.slice ao3 k cap3) ∧ w5.frozen? ⟨w.heap.size, 1, none⟩ = false := by
          intro w3 B v4 v5 w5 q1 q2 q3 q4 q5 q6 q7
          rw [← HV3.out] at q6 q7
          have := fail_round H.out.fine HRI.out hfew HID.out HEE.out HD1.out HOO.out (below_next HB.out HB1.out) q4 q1 q2 q3 (below_alloc w3 _) q5 q6 q7
          rw [HLD.out, HV3.out] at this
          exact this
        have HFR := Lib.hid hfr
        have hown3 : ∀ (w3 : World) {o : Obj}, Below W1.heap.size W1 w3 → (w3.alloc o).ownsRow 0 72 2 (.slice ao3 k cap3) k (ents L'.fb (partM M keep l k).now) := by
          intro w3 o q
          have := (HD1.out.below q).now.alloc o
          rwa [HV3.out, HPK.out] at this
        have HOWN : Hid (∀ (w3 : World) {o : Obj}, Below W1.heap.size W1 w3 → (w3.alloc o).ownsRow 0 72 2 (.slice ao3 k cap3) k (ents L'.fb (partM M keep l k).now)) := hown3
        have hs5 : ∀ (w3 w5 : World) (o : Obj), Loads3 w3 w.heap.size wr.heap.size (.slice ao3 k cap3) (.string en) (.pointer (some ⟨fbi, 0, none⟩)) → Below W1.heap.size W1 w3 → (w3.alloc o).grownBy w5 (Value.slice ao3 k cap3).ownBlock → Loads3 w5 w.heap.size wr.heap.size (.slice ao3 k cap3) (.string en) (.pointer (some ⟨fbi, 0, none⟩)) := by
          intro w3 w5 o q1 q2 q3
          have q4 := q1.below (below_alloc w3 o)
          have nd : some w.heap.size ≠ (Value.slice ao3 k cap3).ownBlock := fun he => by
            rw [← HV3.out] at he
            obtain ⟨cur, hc⟩ := ownsRow_block HD1.out.now he.symm
            have := HD1.out.disk
            rw [HLD.out] at this
            exact ne_of_block hc this (by decide) rfl
          have ne : some wr.heap.size ≠ (Value.slice ao3 k cap3).ownBlock := fun he => by
            rw [← HV3.out] at he
            have := (HD.out.now.lt _ he.symm).2
            omega
          exact ⟨q3.cell q4.1 nd, q3.cell q4.2.1 ne, q3.cell q4.2.2 ne⟩
        have HS5 := Lib.hid hs5
        clear hfr hown3 hs5
        have HL3 : Hid (Loads3 W1 w.heap.size wr.heap.size (.slice ao3 k cap3) (.string en) (.pointer (some ⟨fbi, 0, none⟩))) := ⟨hR, hE0, hE1⟩
        clear hR hE0 hE1
        obtain ⟨hR, hE0, hE1⟩ := HL3.out
        have hen : ∀ w, (callFunc 39 #[.pointer (some ⟨fbi, 0, none⟩), .int .i64 keep]).run Try.prog w = .ok (.enter 39 #[.pointer (some ⟨fbi, 0, none⟩), .int .i64 keep]) w := fun w => enters_of Try.func39 (by kernel_rfl) rfl _ w
        have hca : Calls Try.prog 39 #[.pointer (some ⟨fbi, 0, none⟩), .int .i64 keep] W1.drew fun e w' => ∃ v, e = .returned v ∧ NewFile ((M.file ei).left keep) W1.drew (.returned v) w' :=
          (left_any fbi v (M.file ei) keep W1.drew HFF1.out HFF2.out hf4 hf3 HF5.out hk0).mono fun e w' ⟨B, v', he, r⟩ => ⟨_, he, B, v', rfl, r⟩
        have HEN := Lib.hid hen
        have HCA := Lib.hid hca
        have mixed : Try.prog.follows .mixedOrders = true := by kernel_rfl
        clear hen hca
        go_region_law ((first
          | (guard_hyp HCA; refine step_call2 ?_ 39 (.tmp 47) (.tmp 48) #[70, 3] ?_ (.pointer (some ⟨fbi, 0, none⟩)) (.int .i64 keep) ?_ ?_ HEN.out _ HCA.out ?_; rfl; rfl; rfl; rfl; rintro e4 w3 ⟨B, v4, hq, k1, k2, k3, k4⟩; obtain rfl := Ending.returned.inj hq; have K1 := Lib.hid k1; have K2 := Lib.hid k2; have K3 := Lib.hid k3; have K4 := Lib.hid (below_of_drew k4); clear k1 k2 k3 k4 hq HCA; obtain ⟨hR3, hE03, hE13⟩ := HL3.out.below K4.out; obtain ⟨hR4, hE04, hE14⟩ := (HL3.out.below K4.out).below (below_alloc w3 (.cells #[.string en, .pointer (some ⟨B, 0, none⟩)] 72)))
          | (guard_hyp K4; refine step_append_ent ?_ (.tmp 43) (.tmp 51) ?_ (.slice ao3 k cap3) k (ents L'.fb (partM M keep l k).now) ?_ ?_ w3.heap.size 1 en (.pointer (some ⟨B, 0, none⟩)) ?_ ?_ rfl ?_ ?_; rfl; rfl; rfl; exact HOWN.out w3 K4.out; rfl; exact heap_alloc_new w3 _; omega; intro v5 w5 ho5 hg5 hv5; obtain ⟨ao5, cap5, hvs5⟩ := own_slice ho5; obtain ⟨FR, hst, hfz⟩ := HFR.out w3 B v4 v5 w5 K1.out K2.out K3.out K4.out ho5 hg5 hv5; subst hvs5; have FR2 := Lib.hid FR; clear FR ho5 hg5 hv5)))
        all_goals
          go_wp2
          go_roundw
          case rel => exact ⟨k + 1, by omega, by go_num, FR2⟩
          case measure => simp [RowKit.intOf]; omega
      · obtain rfl : k = l.length := by omega
        have hc1 := HD.out.cell1
        have hc2 := HD.out.cell2
        rw [HLD.out] at hc1 hc2
        obtain ⟨ao3, cap3, hvn3⟩ := own_slice HD.out.now
        rw [hvn3] at hc1
        have HV3 := Lib.hid hvn3
        clear hvn3
        go_wp2_with fail
        rw [← HV3.out]
        refine (clone_any L'.fb L'.vn _ wr (rowE_of HD.out.now) (by rw [partM_now _ _ _ _ (Nat.le_refl _)]; omega)).mono ?_
        rintro e w1 ⟨v', rfl, h1, h2⟩
        have hc2' := (HD.out.below h2).cell2
        have hfz := (HD.out.below h2).frozen 2
        have hq := HFIN.out w1 v' L' wr HB.out HD.out HOO.out h2 h1
        rw [HLD.out] at hc2' hfz hq
        have HQ := Lib.hid hq
        obtain ⟨ao5, cap5, rfl⟩ := own_slice h1
        clear h1 h2 hq hc1 hc2
        go_wp2
        go_ret2
        exact HQ.out
end Go.Proofs.Ytkmanpmaflpgoaa
