/-
  WHAT IS PROVED: what becomes of a disk when its directory is another one; a directory in which a name leads to a file, as one contract.
-/
import Derived.Test.YtkmanpmaflpgoaaLeft
namespace Go.Proofs.Ytkmanpmaflpgoaa
open Go.RowKit Go.Lib

/-- a disk has turned: nothing but its own blocks, and new ones -/
structure Moves (L : LayD) (w : World) (L' : LayD) (w' : World) : Prop where
  os : w'.os = w.os
  tape : w'.tape = w.tape
  output : w'.output = w.output
  size : w.heap.size ≤ w'.heap.size
  block : ∀ k, k < w.heap.size → ¬ L.own k → w'.heap[k]? = w.heap[k]?
  news : ∀ k, L'.own k → L.own k ∨ w.heap.size ≤ k
  d : L'.d = L.d

theorem Moves.of_below {L : LayD} {w w' : World} (h : Below w.heap.size w w') : Moves L w L w' := ⟨h.os, h.tape, h.output, h.size, fun k hk _ => h.block k hk, fun _ hk => .inl hk, rfl⟩
theorem Moves.trans {L1 L2 L3 : LayD} {w1 w2 w3 : World} (h : Moves L1 w1 L2 w2) (h' : Moves L2 w2 L3 w3) : Moves L1 w1 L3 w3 :=
  ⟨h'.os.trans h.os, h'.tape.trans h.tape, h'.output.trans h.output, Nat.le_trans h.size h'.size,
    fun k hk hn => (h'.block k (Nat.lt_of_lt_of_le hk h.size) (fun h2 => by rcases h.news k h2 with h3 | h3; exact hn h3; omega)).trans (h.block k hk hn),
    fun k hk => by
      rcases h'.news k hk with h2 | h2
      · exact h.news k h2
      · exact .inr (Nat.le_trans h.size h2), h'.d.trans h.d⟩
/-- where all of a disk lies from a block on, nothing ahead of that has turned -/
theorem Moves.below {L L' : LayD} {w w' : World} (h : Moves L w L' w') {base : Nat} (hb : base ≤ w.heap.size) (hl : ∀ k, L.own k → base ≤ k) : Below base w w' :=
  ⟨h.os, h.tape, h.output, h.size, fun k hk => h.block k (by omega) (fun ho => by have := hl k ho; omega)⟩
theorem Moves.from {L L' : LayD} {w w' : World} (h : Moves L w L' w') {base : Nat} (hb : base ≤ w.heap.size) (hl : ∀ k, L.own k → base ≤ k) : ∀ k, L'.own k → base ≤ k := fun k hk => by
  rcases h.news k hk with h1 | h1
  · exact hl k h1
  · omega

theorem ne_of_block {w : World} {j k : Nat} {c c' : Array Value} {t t' : TypeId} {f f' : Nat × Nat} (h : w.heap[j]? = some (.cells c t f)) (h' : w.heap[k]? = some (.cells c' t' f')) (ht : t ≠ t') : j ≠ k := by
  rintro rfl
  rw [h] at h'
  simp at h'
  exact ht h'.2.1

theorem ownsRow_set {w : World} {base : Nat} {e : TypeId} {size : Nat} {v : Value} {n : Nat} {xs : List Value} (h : w.ownsRow base e size v n xs) {b j : Nat} {u : Value} (hne : v.ownBlock ≠ some b) : (w.setCell ⟨b, j, none⟩ u).ownsRow base e size v n xs :=
  ownsRow_same h fun k hk => Below.heap_setCell w ⟨b, j, none⟩ u k (fun hkb => hne (by rw [hk, hkb]))

set_option maxRecDepth 100000 in
theorem DiskAt.store {w w' : World} {L : LayD} {M : DiskM} (h : DiskAt w L M) {v' : Value} {now' : Dir} (hg : w.grownBy w' L.vn.ownBlock) (hown : w'.ownsRow 0 72 2 v' now'.length (ents L.fb now'))
    (hv : v'.ownBlock = L.vn.ownBlock ∨ ∃ b, v'.ownBlock = some b ∧ w.heap.size ≤ b) (hf : DiskM.Fine { M with now := now' }) :
    DiskAt (w'.setCell ⟨L.d, 1, none⟩ v') { L with vn := v' } { M with now := now' } ∧ Moves L w { L with vn := v' } (w'.setCell ⟨L.d, 1, none⟩ v') := by
  have hdn : ∀ k, L.vn.ownBlock = some k → k ≠ L.d := fun k hk => by
    obtain ⟨cur, hc⟩ := ownsRow_block h.now hk
    exact ne_of_block hc h.disk (by decide)
  have hdl := lt_of_block h.disk
  have old : ∀ k, k < w.heap.size → (∀ j, L.vn.ownBlock = some j → k ≠ j) → w'.heap[k]? = w.heap[k]? := fun k hk hj => hg.block k hk (fun he => by
    cases hvn : L.vn.ownBlock with
    | none => rw [hvn] at he; cases he
    | some j => rw [hvn] at he; cases he; exact hj k hvn rfl)
  have hd' : w'.heap[L.d]? = some (.cells #[.int .i64 (M.size : Int), L.vn, L.vs] 29 (0, 0)) := (old _ hdl (fun j hj he => hdn j hj he.symm)).trans h.disk
  have setd : ∀ k, k ≠ L.d → (w'.setCell ⟨L.d, 1, none⟩ v').heap[k]? = w'.heap[k]? := fun k hk => Below.heap_setCell w' ⟨L.d, 1, none⟩ v' k hk
  have hvd : v'.ownBlock ≠ some L.d := fun he => by
    rcases hv with hv | ⟨b, hv, hb⟩
    · exact hdn L.d (hv ▸ he) rfl
    · rw [hv] at he; cases he; omega
  refine ⟨⟨hf, ?_, ownsRow_set hown hvd, ?_, ?_, h.nfb, h.nvb, ?_, h.fbs, h.vbs⟩, ⟨hg.os, hg.tape, hg.output, by simpa [World.setCell] using hg.size, ?_, ?_, rfl⟩⟩
  · rw [heap_setCell_same w' L.d 1 _ _ v' hd']; rfl
  · refine ownsRow_same h.sure (fun k hk => ?_)
    obtain ⟨cur, hc⟩ := ownsRow_block h.sure hk
    rw [setd k (ne_of_block hc h.disk (by decide))]
    exact old k (lt_of_block hc) (fun j hj he => h.ap j hj (he ▸ hk))
  · intro k hk hs
    rcases hv with hv | ⟨b, hv, hb⟩
    · exact h.ap k (hv ▸ hk) hs
    · have hk' : v'.ownBlock = some k := hk
      rw [hv] at hk'; cases hk'
      have := (h.sure.lt k hs).2
      omega
  · intro i f b v h1 h2 h3
    obtain ⟨a1, a2⟩ := h.file i f b v h1 h2 h3
    constructor
    · rw [setd b (ne_of_block a1 h.disk (by decide)), old b (lt_of_block a1) (fun j hj he => by
        obtain ⟨cur, hc⟩ := ownsRow_block h.now hj
        exact ne_of_block a1 hc (by decide) he)]
      exact a1
    · refine ownsRow_same a2 (fun k hk => ?_)
      obtain ⟨cur, hc⟩ := ownsRow_block a2 hk
      rw [setd k (ne_of_block hc h.disk (by decide))]
      exact old k (lt_of_block hc) (fun j hj he => by
        obtain ⟨cur', hc'⟩ := ownsRow_block h.now hj
        exact ne_of_block hc hc' (by decide) he)
  · intro k hk hn
    rw [setd k (fun he => hn (.inl he))]
    exact old k hk (fun j hj he => hn (.inr (.inl (he ▸ hj))))
  · rintro k (hk | hk | hk | hk | hk)
    · exact .inl (.inl hk)
    · have hk' : v'.ownBlock = some k := hk
      rcases hv with hv | ⟨b, hv, hb⟩
      · exact .inl (.inr (.inl (hv ▸ hk')))
      · rw [hv] at hk'; cases hk'; exact .inr hb
    · exact .inl (.inr (.inr (.inl hk)))
    · exact .inl (.inr (.inr (.inr (.inl hk))))
    · exact .inl (.inr (.inr (.inr (.inr hk))))

theorem ents_set (fb : List Nat) (l : Dir) (k : Nat) (e : ByteArray × Nat) (nm : ByteArray) (f : Nat) (hk : l[k]? = some e) (he : e.1 = nm) : ents fb (l.set k (nm, f)) = (ents fb l).set (k * 2 + 1) (.pointer (some ⟨fb.getD f 0, 0, none⟩)) := by
  induction l generalizing k with
  | nil => simp at hk
  | cons a r ih =>
    cases k with
    | zero => simp at hk; subst hk; subst he; rw [List.set_cons_zero, ents_cons, ents_cons]; rfl
    | succ k =>
      rw [List.set_cons_succ, ents_cons, ents_cons, ih k (by simpa using hk), show (k + 1) * 2 + 1 = (k * 2 + 1) + 1 + 1 by omega]
      simp

theorem lay_rise {l : Dir} (h : Rise l) (nm : ByteArray) (f : Nat) : Rise (lay l nm f) := by
  unfold lay
  split
  · rename_i ht
    obtain ⟨e, h1, h2⟩ := there_get ht
    have := rise_set h h1 f
    rwa [h2] at this
  · rename_i ht
    exact rise_insert h nm f (by simpa using ht)

theorem lay_mem {l : Dir} {nm : ByteArray} {f : Nat} {e : ByteArray × Nat} (h : e ∈ lay l nm f) : e = (nm, f) ∨ e ∈ l := by
  unfold lay at h
  split at h
  · rcases List.mem_or_eq_of_mem_set h with h | h
    · exact .inr h
    · exact .inl h
  · rcases List.mem_append.1 h with h | h
    · exact .inr (List.mem_of_mem_take h)
    · rcases List.mem_cons.1 h with h | h
      · exact .inl h
      · exact .inr (List.mem_of_mem_drop h)

theorem lay_length (l : Dir) (nm : ByteArray) (f : Nat) : (lay l nm f).length = if there l nm then l.length else l.length + 1 := by
  unfold lay
  split
  · simp
  · have := place_le l nm
    simp; omega

/-- a directory where a name leads to a file -/
theorem with_any (fb : List Nat) (vn : Value) (l : Dir) (nm : ByteArray) (f b : Nat) (w : World) (hown : w.ownsRow 0 72 2 vn l.length (ents fb l)) (hl : l.length ≤ 1000) (hr : Rise l) (hs : nm.size ≤ 4294967296) (hb : fb.getD f 0 = b) :
    Calls Try.prog 37 #[vn, .string nm, .pointer (some ⟨b, 0, none⟩)] w (Rowed 0 vn (lay l nm f).length (ents fb (lay l nm f)) w) := by
  cases ht : there l nm with
  | true =>
    have := with_old fb vn l nm b w hown hl hr ht
    obtain ⟨e, h1, h2⟩ := there_get ht
    have e1 : (lay l nm f).length = l.length := by rw [lay_length, ht]; rfl
    have e2 : ents fb (lay l nm f) = (ents fb l).set (place l nm * 2 + 1) (.pointer (some ⟨b, 0, none⟩)) := by
      unfold lay
      rw [ht, if_pos rfl, ents_set fb l _ e nm f h1 h2, hb]
    rw [e1, e2]; exact this
  | false =>
    have := with_new fb vn l nm b w hown hl hr ht hs
    have e1 : (lay l nm f).length = l.length + 1 := by rw [lay_length, ht]; rfl
    have e2 : ents fb (lay l nm f) = (ents fb l).take (place l nm * 2) ++ [.string nm, .pointer (some ⟨b, 0, none⟩)] ++ (ents fb l).drop (place l nm * 2) := by
      unfold lay
      rw [ht, if_neg (by simp), ents_append, ents_cons, ents_take, ents_drop, hb]
      simp
    rw [e1, e2]; exact this
end Go.Proofs.Ytkmanpmaflpgoaa
