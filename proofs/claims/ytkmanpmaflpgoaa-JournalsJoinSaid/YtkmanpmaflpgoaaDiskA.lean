/-
  WHAT IS PROVED: what it is for a disk to lie in memory; contracts of package files: none, valid, the comparison of names, place.
-/
import Derived.Test.YtkmanpmaflpgoaaKit
import Derived.Test.YtkmanpmaflpgoaaDirPure
import Derived.Laws.Externs
namespace Go.Proofs.Ytkmanpmaflpgoaa
open Go.RowKit Go.Lib

/-! ### A disk in memory -/
/-- where the parts of a disk lie: itself, its directory, its durable one, its files, and their bytes -/
structure LayD where
  d : Nat
  vn : Value
  vs : Value
  fb : List Nat
  vb : List Value

def ents (fb : List Nat) (l : Dir) : List Value := l.flatMap fun e => [.string e.1, .pointer (some ⟨fb.getD e.2 0, 0, none⟩)]
theorem ents_length (fb : List Nat) (l : Dir) : (ents fb l).length = l.length * 2 := by
  induction l with
  | nil => rfl
  | cons a r ih => simp [ents] at ih ⊢; omega
theorem ents_append (fb : List Nat) (l m : Dir) : ents fb (l ++ m) = ents fb l ++ ents fb m := by simp [ents]
theorem ents_cons (fb : List Nat) (e : ByteArray × Nat) (m : Dir) : ents fb (e :: m) = [.string e.1, .pointer (some ⟨fb.getD e.2 0, 0, none⟩)] ++ ents fb m := by simp [ents]
theorem ents_get (fb : List Nat) : ∀ (l : Dir) (k : Nat) (e : ByteArray × Nat), l[k]? = some e → (ents fb l)[k * 2]? = some (.string e.1) ∧ (ents fb l)[k * 2 + 1]? = some (.pointer (some ⟨fb.getD e.2 0, 0, none⟩))
  | [], k, e, h => by simp at h
  | a :: r, 0, e, h => by simp at h; subst h; simp [ents_cons]
  | a :: r, k + 1, e, h => by
    have := ents_get fb r k e (by simpa using h)
    rw [ents_cons]
    rw [show (k + 1) * 2 = (k * 2) + 2 by omega]
    simpa using this
theorem ents_take (fb : List Nat) : ∀ (l : Dir) (k : Nat), ents fb (l.take k) = (ents fb l).take (k * 2)
  | [], k => by simp [ents]
  | a :: r, 0 => by simp [ents]
  | a :: r, k + 1 => by
    rw [List.take_succ_cons, ents_cons, ents_cons, ents_take fb r k, show (k + 1) * 2 = k * 2 + 1 + 1 by omega]
    simp
theorem ents_drop (fb : List Nat) : ∀ (l : Dir) (k : Nat), ents fb (l.drop k) = (ents fb l).drop (k * 2)
  | [], k => by simp [ents]
  | a :: r, 0 => by simp
  | a :: r, k + 1 => by
    rw [List.drop_succ_cons, ents_cons, ents_drop fb r k, show (k + 1) * 2 = k * 2 + 1 + 1 by omega]
    simp
theorem ents_one (fb : List Nat) (l : Dir) : ∀ u ∈ ents fb l, u.oneCell' = true := by
  intro u hu
  simp only [ents, List.mem_flatMap] at hu
  obtain ⟨e, _, he⟩ := hu
  simp at he
  rcases he with rfl | rfl <;> rfl
theorem ents_more (fb fb' : List Nat) (l : Dir) (h : ∀ e ∈ l, fb'.getD e.2 0 = fb.getD e.2 0) : ents fb' l = ents fb l := by
  unfold ents
  induction l with
  | nil => rfl
  | cons a r ih => simp only [List.flatMap_cons]; rw [h a (by simp), ih (fun e he => h e (by simp [he]))]

theorem ownsRow_same {w w' : World} {base : Nat} {e : TypeId} {size : Nat} {v : Value} {n : Nat} {xs : List Value} (h : w.ownsRow base e size v n xs) (hk : ∀ k, v.ownBlock = some k → w'.heap[k]? = w.heap[k]?) : w'.ownsRow base e size v n xs := by
  refine ⟨h.1, ?_⟩
  rcases h.2 with hn | ⟨g, cap, cur, rfl, hb, hg, rest⟩
  · exact .inl hn
  · exact .inr ⟨g, cap, cur, rfl, hb, (hk g rfl).trans hg, rest⟩
theorem ownsRow_base {w : World} {base base' : Nat} {e : TypeId} {size : Nat} {v : Value} {n : Nat} {xs : List Value} (h : w.ownsRow base e size v n xs) (hk : ∀ k, v.ownBlock = some k → base' ≤ k) : w.ownsRow base' e size v n xs := by
  refine ⟨h.1, ?_⟩
  rcases h.2 with hn | ⟨g, cap, cur, rfl, hb, hg, rest⟩
  · exact .inl hn
  · exact .inr ⟨g, cap, cur, rfl, hk g rfl, hg, rest⟩
theorem ownsRow_block {w : World} {base : Nat} {e : TypeId} {size : Nat} {v : Value} {n : Nat} {xs : List Value} (h : w.ownsRow base e size v n xs) {k : Nat} (hk : v.ownBlock = some k) : ∃ cur, w.heap[k]? = some (.cells cur e (0, 0)) := by
  rcases h.2 with ⟨rfl, _⟩ | ⟨g, cap, cur, rfl, _, hg, _⟩
  · simp [Value.ownBlock] at hk
  · simp [Value.ownBlock] at hk
    subst hk
    exact ⟨cur, hg⟩

structure DiskAt (w : World) (L : LayD) (M : DiskM) : Prop where
  fine : M.Fine
  disk : w.heap[L.d]? = some (.cells #[.int .i64 (M.size : Int), L.vn, L.vs] 29 (0, 0))
  now : w.ownsRow 0 72 2 L.vn M.now.length (ents L.fb M.now)
  sure : w.ownsRow 0 72 2 L.vs M.sure.length (ents L.fb M.sure)
  ap : ∀ k, L.vn.ownBlock = some k → L.vs.ownBlock ≠ some k
  nfb : L.fb.length = M.files.length
  nvb : L.vb.length = M.files.length
  file : ∀ (i : Nat) (f : FileM) (b : Nat) (v : Value), M.files[i]? = some f → L.fb[i]? = some b → L.vb[i]? = some v →
    w.heap[b]? = some (.cells #[v, .int .i64 (f.sure : Int)] 77 (0, 0)) ∧ w.ownsRow 0 5 1 v f.bytes.length (cells8 f.bytes)
  fbs : ∀ (i j b : Nat), L.fb[i]? = some b → L.fb[j]? = some b → i = j
  vbs : ∀ (i j : Nat) (v v' : Value) (k : Nat), L.vb[i]? = some v → L.vb[j]? = some v' → v.ownBlock = some k → v'.ownBlock = some k → i = j

/-- the blocks that are a disk's own -/
def LayD.own (L : LayD) (k : Nat) : Prop := k = L.d ∨ L.vn.ownBlock = some k ∨ L.vs.ownBlock = some k ∨ k ∈ L.fb ∨ ∃ v ∈ L.vb, v.ownBlock = some k

theorem DiskAt.kept {w w' : World} {L : LayD} {M : DiskM} (h : DiskAt w L M) (hk : ∀ k, L.own k → w'.heap[k]? = w.heap[k]?) : DiskAt w' L M where
  fine := h.fine
  disk := (hk _ (.inl rfl)).trans h.disk
  now := ownsRow_same h.now fun k hv => hk k (.inr (.inl hv))
  sure := ownsRow_same h.sure fun k hv => hk k (.inr (.inr (.inl hv)))
  ap := h.ap
  nfb := h.nfb
  nvb := h.nvb
  file := fun i f b v hf hb hv => by
    obtain ⟨h1, h2⟩ := h.file i f b v hf hb hv
    exact ⟨(hk b (.inr (.inr (.inr (.inl (List.mem_of_getElem? hb)))))).trans h1, ownsRow_same h2 fun k hv' => hk k (.inr (.inr (.inr (.inr ⟨v, List.mem_of_getElem? hv, hv'⟩))))⟩
  fbs := h.fbs
  vbs := h.vbs

theorem lt_of_block {w : World} {k : Nat} {o : Obj} (h : w.heap[k]? = some o) : k < w.heap.size := (Array.getElem?_eq_some_iff.1 h).1

theorem DiskAt.filed {w : World} {L : LayD} {M : DiskM} (h : DiskAt w L M) {i : Nat} (hi : i < M.files.length) : ∃ f b v, M.files[i]? = some f ∧ L.fb[i]? = some b ∧ L.vb[i]? = some v :=
  ⟨M.files[i], L.fb[i]'(by rw [h.nfb]; exact hi), L.vb[i]'(by rw [h.nvb]; exact hi), by simp, by simp, by simp⟩

theorem DiskAt.lt {w : World} {L : LayD} {M : DiskM} (h : DiskAt w L M) : ∀ k, L.own k → k < w.heap.size := by
  rintro k (rfl | hk | hk | hk | ⟨v, hv, hk⟩)
  · exact lt_of_block h.disk
  · exact (h.now.lt k hk).2
  · exact (h.sure.lt k hk).2
  · obtain ⟨i, hi⟩ := List.getElem?_of_mem hk
    have hl : i < M.files.length := by rw [← h.nfb]; exact (List.getElem?_eq_some_iff.1 hi).1
    obtain ⟨f, b, v, h1, h2, h3⟩ := h.filed hl
    rw [hi] at h2; cases h2
    exact lt_of_block (h.file i f _ v h1 hi h3).1
  · obtain ⟨i, hi⟩ := List.getElem?_of_mem hv
    have hl : i < M.files.length := by rw [← h.nvb]; exact (List.getElem?_eq_some_iff.1 hi).1
    obtain ⟨f, b, v', h1, h2, h3⟩ := h.filed hl
    rw [hi] at h3; cases h3
    exact ((h.file i f b _ h1 h2 hi).2.lt k hk).2

theorem DiskAt.below {w w' : World} {L : LayD} {M : DiskM} (h : DiskAt w L M) (hb : Below w.heap.size w w') : DiskAt w' L M := h.kept fun k hk => hb.block k (h.lt k hk)

theorem cell_of_block {w : World} {b : Nat} {cs : Array Value} {t : TypeId} {fr : Nat × Nat} (h : w.heap[b]? = some (.cells cs t fr)) (j : Nat) : w.cell? ⟨b, j, none⟩ = cs[j]? := cell_of_row w b j cs t fr h

theorem DiskAt.cell0 {w : World} {L : LayD} {M : DiskM} (h : DiskAt w L M) : w.cell? ⟨L.d, 0, none⟩ = some (.int .i64 (M.size : Int)) := cell_of_block h.disk 0
theorem DiskAt.cell1 {w : World} {L : LayD} {M : DiskM} (h : DiskAt w L M) : w.cell? ⟨L.d, 1, none⟩ = some L.vn := cell_of_block h.disk 1
theorem DiskAt.cell2 {w : World} {L : LayD} {M : DiskM} (h : DiskAt w L M) : w.cell? ⟨L.d, 2, none⟩ = some L.vs := cell_of_block h.disk 2

/-- what entries read as -/
def RowE (w : World) (fb : List Nat) (v : Value) (l : Dir) : Prop :=
  ∃ ao cap, v = .slice ao l.length cap ∧ l.length ≤ cap ∧ cap ≤ 9223372036854775807 ∧
    ((ao = none ∧ cap = 0) ∨ ∃ g, ao = some ⟨g, 0, none⟩ ∧ ∀ (k : Nat) (e : ByteArray × Nat), l[k]? = some e → w.cell? ⟨g, k * 2, none⟩ = some (.string e.1) ∧ w.cell? ⟨g, k * 2 + 1, none⟩ = some (.pointer (some ⟨fb.getD e.2 0, 0, none⟩)))

theorem rowE_of {w : World} {base : Nat} {fb : List Nat} {v : Value} {l : Dir} (h : w.ownsRow base 72 2 v l.length (ents fb l)) : RowE w fb v l := by
  rcases h.2 with ⟨rfl, hn⟩ | ⟨g, cap, cur, rfl, hg, hh, hc, hm, hs, ht⟩
  · exact ⟨none, 0, by rw [hn], by omega, by omega, .inl ⟨rfl, rfl⟩⟩
  · refine ⟨_, cap, rfl, hc, hm, .inr ⟨g, rfl, fun k e he => ?_⟩⟩
    obtain ⟨h1, h2⟩ := ents_get fb l k e he
    have a1 := h.cells (g := g) rfl _ _ h1
    have a2 := h.cells (g := g) rfl _ _ h2
    rw [Addr.add_lit, Nat.zero_add] at a1 a2
    exact ⟨a1, a2⟩

theorem RowE.kept {w w' : World} {fb : List Nat} {v : Value} {l : Dir} (h : RowE w fb v l) (hb : Below w.heap.size w w') : RowE w' fb v l := by
  obtain ⟨ao, cap, rfl, h1, h2, h3⟩ := h
  refine ⟨ao, cap, rfl, h1, h2, ?_⟩
  rcases h3 with h3 | ⟨g, rfl, h3⟩
  · exact .inl h3
  · refine .inr ⟨g, rfl, fun k e he => ?_⟩
    obtain ⟨a1, a2⟩ := h3 k e he
    exact ⟨(hb.cell (p := ⟨g, k * 2, none⟩) (World.block_lt_of_cell? w _ a1)).trans a1, (hb.cell (p := ⟨g, k * 2 + 1, none⟩) (World.block_lt_of_cell? w _ a2)).trans a2⟩

theorem RowE.lies {w : World} {fb : List Nat} {v : Value} {l : Dir} (h : RowE w fb v l) (hl : 0 < l.length) :
    ∃ g cap, v = .slice (some ⟨g, 0, none⟩) l.length cap ∧ l.length ≤ cap ∧ cap ≤ 9223372036854775807 ∧ ∀ (k : Nat) (e : ByteArray × Nat), l[k]? = some e → w.cell? ⟨g, k * 2, none⟩ = some (.string e.1) ∧ w.cell? ⟨g, k * 2 + 1, none⟩ = some (.pointer (some ⟨fb.getD e.2 0, 0, none⟩)) := by
  obtain ⟨ao, cap, rfl, h1, h2, h3⟩ := h
  rcases h3 with ⟨_, h3⟩ | ⟨g, rfl, h3⟩
  · omega
  · exact ⟨g, cap, rfl, h1, h2, h3⟩

/-! ### none, valid -/
theorem none_nil (w : World) : Calls Try.prog 33 #[.pointer none] w fun e w' => e = .returned (.bool true) ∧ w = w' := by
  go_enter Try.func33, Try.ntmps33
  go_wp2
  go_ret
  exact ⟨rfl, rfl⟩
theorem none_zero (d : Nat) (w : World) (hc : w.cell? ⟨d, 0, none⟩ = some (.int .i64 0)) : Calls Try.prog 33 #[.pointer (some ⟨d, 0, none⟩)] w fun e w' => e = .returned (.bool true) ∧ w = w' := by
  go_enter Try.func33, Try.ntmps33
  go_wp2
  go_ret
  exact ⟨rfl, rfl⟩
theorem none_no (d n : Nat) (w : World) (hc : w.cell? ⟨d, 0, none⟩ = some (.int .i64 (n : Int))) (hn : 1 ≤ n) : Calls Try.prog 33 #[.pointer (some ⟨d, 0, none⟩)] w fun e w' => e = .returned (.bool false) ∧ w = w' := by
  have h0 : ((n : Int) == 0) = false := by rw [beq_eq_false_iff_ne]; omega
  go_enter Try.func33, Try.ntmps33
  go_wp2
  go_ret
  exact ⟨rfl, rfl⟩
end Go.Proofs.Ytkmanpmaflpgoaa
