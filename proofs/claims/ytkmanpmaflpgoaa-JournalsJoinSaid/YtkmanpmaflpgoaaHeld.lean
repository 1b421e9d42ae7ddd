/-
  WHAT IS PROVED: a disk with other blocks of the same call beside it, and what a call may turn of them.
-/
import Derived.Test.YtkmanpmaflpgoaaHas
namespace Go.Proofs.Ytkmanpmaflpgoaa
open Go.RowKit Go.Lib

/-- the blocks of S alone may have turned; those of S' are of S, or new -/
structure MovesX (S : Nat → Prop) (w : World) (S' : Nat → Prop) (w' : World) : Prop where
  os : w'.os = w.os
  tape : w'.tape = w.tape
  output : w'.output = w.output
  size : w.heap.size ≤ w'.heap.size
  block : ∀ k, k < w.heap.size → ¬ S k → w'.heap[k]? = w.heap[k]?
  news : ∀ k, S' k → S k ∨ w.heap.size ≤ k

theorem MovesX.of_below {S : Nat → Prop} {w w' : World} (h : Below w.heap.size w w') : MovesX S w S w' := ⟨h.os, h.tape, h.output, h.size, fun k hk _ => h.block k hk, fun _ hk => .inl hk⟩
theorem MovesX.more {S S' : Nat → Prop} {w w' : World} (h : Below w.heap.size w w') (hS : ∀ k, S' k → S k ∨ w.heap.size ≤ k) : MovesX S w S' w' := ⟨h.os, h.tape, h.output, h.size, fun k hk _ => h.block k hk, hS⟩
theorem MovesX.trans {S1 S2 S3 : Nat → Prop} {w1 w2 w3 : World} (h : MovesX S1 w1 S2 w2) (h' : MovesX S2 w2 S3 w3) : MovesX S1 w1 S3 w3 :=
  ⟨h'.os.trans h.os, h'.tape.trans h.tape, h'.output.trans h.output, Nat.le_trans h.size h'.size,
    fun k hk hn => (h'.block k (Nat.lt_of_lt_of_le hk h.size) (fun h2 => by rcases h.news k h2 with h3 | h3; exact hn h3; omega)).trans (h.block k hk hn),
    fun k hk => by
      rcases h'.news k hk with h2 | h2
      · exact h.news k h2
      · exact .inr (Nat.le_trans h.size h2)⟩
theorem MovesX.below {S S' : Nat → Prop} {w w' : World} (h : MovesX S w S' w') {base : Nat} (hb : base ≤ w.heap.size) (hl : ∀ k, S k → base ≤ k) : Below base w w' :=
  ⟨h.os, h.tape, h.output, h.size, fun k hk => h.block k (Nat.lt_of_lt_of_le hk hb) (fun hs => by have := hl k hs; omega)⟩
theorem MovesX.from {S S' : Nat → Prop} {w w' : World} (h : MovesX S w S' w') {base : Nat} (hb : base ≤ w.heap.size) (hl : ∀ k, S k → base ≤ k) : ∀ k, S' k → base ≤ k := fun k hk => by
  rcases h.news k hk with h2 | h2
  · exact hl k h2
  · omega

/-- a disk's own blocks, and those of others -/
def ownX (L : LayD) (X : List (Nat × Obj)) (k : Nat) : Prop := L.own k ∨ ∃ x ∈ X, x.1 = k

structure Held (w : World) (L : LayD) (M : DiskM) (X : List (Nat × Obj)) : Prop where
  disk : DiskAt w L M
  item : ∀ x ∈ X, w.heap[x.1]? = some x.2 ∧ ¬ L.own x.1
  apart : X.Pairwise fun a b => a.1 ≠ b.1

theorem Held.lt {w : World} {L : LayD} {M : DiskM} {X : List (Nat × Obj)} (h : Held w L M X) : ∀ k, ownX L X k → k < w.heap.size := by
  rintro k (hk | ⟨x, hx, rfl⟩)
  · exact h.disk.lt k hk
  · exact lt_of_block (h.item x hx).1
theorem Held.same {w w' : World} {L : LayD} {M : DiskM} {X : List (Nat × Obj)} (h : Held w L M X) (hk : ∀ k, ownX L X k → w'.heap[k]? = w.heap[k]?) : Held w' L M X :=
  ⟨h.disk.kept fun k ho => hk k (.inl ho), fun x hx => ⟨(hk _ (.inr ⟨x, hx, rfl⟩)).trans (h.item x hx).1, (h.item x hx).2⟩, h.apart⟩
theorem Held.kept {w w' : World} {L : LayD} {M : DiskM} {X : List (Nat × Obj)} (h : Held w L M X) (hb : Below w.heap.size w w') : Held w' L M X := h.same fun k hk => hb.block k (h.lt k hk)

/-- what a disk's call leaves, where other blocks lie beside it -/
theorem Held.moves {w w' : World} {L L' : LayD} {M M' : DiskM} {X : List (Nat × Obj)} (h : Held w L M X) (hm : Moves L w L' w') (hd : DiskAt w' L' M') : Held w' L' M' X ∧ MovesX (ownX L X) w (ownX L' X) w' := by
  refine ⟨⟨hd, fun x hx => ?_, h.apart⟩, ⟨hm.os, hm.tape, hm.output, hm.size, fun k hk hn => hm.block k hk (fun ho => hn (.inl ho)), ?_⟩⟩
  · obtain ⟨h1, h2⟩ := h.item x hx
    refine ⟨(hm.block _ (lt_of_block h1) h2).trans h1, fun ho => ?_⟩
    rcases hm.news _ ho with h3 | h3
    · exact h2 h3
    · have := lt_of_block h1; omega
  · rintro k (hk | hk)
    · rcases hm.news k hk with h3 | h3
      · exact .inl (.inl h3)
      · exact .inr h3
    · exact .inl (.inr hk)

theorem Held.add {w w' : World} {L : LayD} {M : DiskM} {X : List (Nat × Obj)} (h : Held w L M X) (hb : Below w.heap.size w w') {k : Nat} {o : Obj} (hk : w.heap.size ≤ k) (ho : w'.heap[k]? = some o) :
    Held w' L M ((k, o) :: X) ∧ MovesX (ownX L X) w (ownX L ((k, o) :: X)) w' := by
  have h' := h.kept hb
  refine ⟨⟨h'.disk, fun x hx => ?_, List.pairwise_cons.2 ⟨fun x hx => ?_, h.apart⟩⟩, MovesX.more hb ?_⟩
  · rcases List.mem_cons.1 hx with rfl | hx
    · exact ⟨ho, fun hown => by have := h.disk.lt _ hown; simp at this; omega⟩
    · exact h'.item x hx
  · have := lt_of_block (h.item x hx).1
    simp only; omega
  · rintro k' (hk' | ⟨x, hx, rfl⟩)
    · exact .inl (.inl hk')
    · rcases List.mem_cons.1 hx with rfl | hx
      · exact .inr hk
      · exact .inl (.inr ⟨x, hx, rfl⟩)

theorem Held.drop {w : World} {L : LayD} {M : DiskM} {x : Nat × Obj} {X : List (Nat × Obj)} (h : Held w L M (x :: X)) : Held w L M X := ⟨h.disk, fun y hy => h.item y (by simp [hy]), (List.pairwise_cons.1 h.apart).2⟩
theorem Held.swap {w : World} {L : LayD} {M : DiskM} {x y : Nat × Obj} {X : List (Nat × Obj)} (h : Held w L M (x :: y :: X)) : Held w L M (y :: x :: X) := by
  obtain ⟨h1, h2⟩ := List.pairwise_cons.1 h.apart
  obtain ⟨h3, h4⟩ := List.pairwise_cons.1 h2
  refine ⟨h.disk, fun z hz => h.item z (by simp only [List.mem_cons] at hz ⊢; rcases hz with h | h | h; exact .inr (.inl h); exact .inl h; exact .inr (.inr h)), List.pairwise_cons.2 ⟨fun z hz => ?_, List.pairwise_cons.2 ⟨fun z hz => h1 z (by simp [hz]), h4⟩⟩⟩
  rcases List.mem_cons.1 hz with rfl | hz
  · exact fun e => h1 y (by simp) e.symm
  · exact h3 z hz

/-- the first one of the others is turned -/
theorem Held.turn {w w' : World} {L : LayD} {M : DiskM} {k : Nat} {o o' : Obj} {X : List (Nat × Obj)} (h : Held w L M ((k, o) :: X)) (ho : w'.heap[k]? = some o') (hk : ∀ i, i ≠ k → w'.heap[i]? = w.heap[i]?) : Held w' L M ((k, o') :: X) := by
  obtain ⟨h1, h2⟩ := List.pairwise_cons.1 h.apart
  have hn := (h.item (k, o) (by simp)).2
  refine ⟨h.disk.kept fun i hi => hk i (fun e => hn (by rw [← e]; exact hi)), fun x hx => ?_, List.pairwise_cons.2 ⟨h1, h2⟩⟩
  rcases List.mem_cons.1 hx with rfl | hx
  · exact ⟨ho, hn⟩
  · obtain ⟨a, b⟩ := h.item x (by simp [hx])
    exact ⟨(hk _ (fun e => h1 x hx e.symm)).trans a, b⟩

/-- a disk of the call that began in world w0, and other blocks of that call; nothing that was there then has turned -/
def HasX (w0 w : World) (d : Nat) (M : DiskM) (X : List (Nat × Obj)) : Prop := ∃ L : LayD, L.d = d ∧ Held w L M X ∧ (∀ k, ownX L X k → w0.heap.size ≤ k) ∧ Below w0.heap.size w0 w

theorem HasX.has {w0 w : World} {d : Nat} {M : DiskM} {X : List (Nat × Obj)} (h : HasX w0 w d M X) : Has w0 w d M := by
  obtain ⟨L, h1, h2, h3, h4⟩ := h
  exact ⟨L, h1, h2.disk, fun k hk => h3 k (.inl hk), h4⟩
theorem Has.x {w0 w : World} {d : Nat} {M : DiskM} (h : Has w0 w d M) : HasX w0 w d M [] := by
  obtain ⟨L, h1, h2, h3, h4⟩ := h
  exact ⟨L, h1, ⟨h2, fun x hx => by simp at hx, List.Pairwise.nil⟩, fun k hk => by rcases hk with hk | ⟨x, hx, _⟩; exact h3 k hk; simp at hx, h4⟩
theorem HasX.below {w0 w : World} {d : Nat} {M : DiskM} {X : List (Nat × Obj)} (h : HasX w0 w d M X) : Below w0.heap.size w0 w := by obtain ⟨_, _, _, _, h⟩ := h; exact h
theorem HasX.kept {w0 w w' : World} {d : Nat} {M : DiskM} {X : List (Nat × Obj)} (h : HasX w0 w d M X) (hb : Below w.heap.size w w') : HasX w0 w' d M X := by
  obtain ⟨L, h1, h2, h3, h4⟩ := h
  exact ⟨L, h1, h2.kept hb, h3, below_next h4 hb⟩
theorem HasX.alloc {w0 w : World} {d : Nat} {M : DiskM} {X : List (Nat × Obj)} (h : HasX w0 w d M X) (o : Obj) : HasX w0 (w.alloc o) d M X := h.kept (below_alloc w o)
theorem HasX.drew {w0 w : World} {d : Nat} {M : DiskM} {X : List (Nat × Obj)} (h : HasX w0 w d M X) : HasX w0 w.drew d M X := h.kept (Below.refl _ _).drew
theorem HasX.drewN {w0 w : World} {d : Nat} {M : DiskM} {X : List (Nat × Obj)} (h : HasX w0 w d M X) (k : Nat) : HasX w0 (w.drewN k) d M X := h.kept (Below.drewN_refl w k)
theorem HasX.drop {w0 w : World} {d : Nat} {M : DiskM} {x : Nat × Obj} {X : List (Nat × Obj)} (h : HasX w0 w d M (x :: X)) : HasX w0 w d M X := by
  obtain ⟨L, h1, h2, h3, h4⟩ := h
  exact ⟨L, h1, h2.drop, fun k hk => h3 k (by rcases hk with hk | ⟨y, hy, e⟩; exact .inl hk; exact .inr ⟨y, by simp [hy], e⟩), h4⟩
theorem HasX.swap {w0 w : World} {d : Nat} {M : DiskM} {x y : Nat × Obj} {X : List (Nat × Obj)} (h : HasX w0 w d M (x :: y :: X)) : HasX w0 w d M (y :: x :: X) := by
  obtain ⟨L, h1, h2, h3, h4⟩ := h
  exact ⟨L, h1, h2.swap, fun k hk => h3 k (by rcases hk with hk | ⟨z, hz, e⟩; exact .inl hk; exact .inr ⟨z, by simp only [List.mem_cons] at hz ⊢; rcases hz with h | h | h; exact .inr (.inl h); exact .inl h; exact .inr (.inr h), e⟩), h4⟩
/-- a block that was made is taken among those beside the disk -/
theorem HasX.add {w0 w w' : World} {d : Nat} {M : DiskM} {X : List (Nat × Obj)} (h : HasX w0 w d M X) (hb : Below w.heap.size w w') {k : Nat} {o : Obj} (hk : w.heap.size ≤ k) (ho : w'.heap[k]? = some o) : HasX w0 w' d M ((k, o) :: X) := by
  obtain ⟨L, h1, h2, h3, h4⟩ := h
  have hs := h4.size
  refine ⟨L, h1, (h2.add hb hk ho).1, ?_, below_next h4 hb⟩
  rintro i (hi | ⟨x, hx, rfl⟩)
  · exact h3 i (.inl hi)
  · rcases List.mem_cons.1 hx with rfl | hx
    · simp only; omega
    · exact h3 _ (.inr ⟨x, hx, rfl⟩)
theorem HasX.item {w0 w : World} {d : Nat} {M : DiskM} {x : Nat × Obj} {X : List (Nat × Obj)} (h : HasX w0 w d M X) (hx : x ∈ X) : w.heap[x.1]? = some x.2 := by
  obtain ⟨L, h1, h2, h3, h4⟩ := h
  exact (h2.item x hx).1
theorem HasX.of {w0 w w' : World} {L L' : LayD} {M' : DiskM} {X X' : List (Nat × Obj)} (hd : L'.d = L.d) (h : Held w' L' M' X') (hm : MovesX (ownX L X) w (ownX L' X') w') (ho : ∀ k, ownX L X k → w0.heap.size ≤ k) (hb : Below w0.heap.size w0 w) : HasX w0 w' L.d M' X' :=
  ⟨L', hd, h, hm.from hb.size ho, hb.trans (hm.below hb.size ho)⟩

/-- a call that tells an error, and what it leaves -/
def DoesX (w0 : World) (d : Nat) (M : DiskM) (X : List (Nat × Obj)) (k : Int) (e : Ending) (w' : World) : Prop := e = .returned (.int .i64 k) ∧ HasX w0 w' d M X

theorem doesX_of {P : Program} {w0 w : World} {L : LayD} {M M' M'' : DiskM} {X : List (Nat × Obj)} {n : Nat} {k : Int} {f : FuncId} {args : Array Value} (hh : Held w L M X) (hc : Calls P f args w (Turns L M' n w)) (ho : ∀ k, ownX L X k → w0.heap.size ≤ k) (hb : Below w0.heap.size w0 w)
    (hk : (n : Int) = k) (hM : M' = M'') : Calls P f args w (DoesX w0 L.d M'' X k) :=
  hc.mono fun e w' ⟨he, L', m, h⟩ => ⟨by rw [he, hk], by subst hM; exact HasX.of m.d (hh.moves m h).1 (hh.moves m h).2 ho hb⟩

section
variable {w0 w : World} {d : Nat} {M M' : DiskM} {k : Int} {X : List (Nat × Obj)}
theorem create_x (h : HasX w0 w d M X) (nm : ByteArray) (hs : nm.size ≤ 4294967296) (hk : (M.createE nm : Int) = k) (hM : M.createM nm = M') : Calls Try.prog 20 #[.pointer (some ⟨d, 0, none⟩), .string nm] w (DoesX w0 d M' X k) := by
  obtain ⟨L, rfl, h2, h3, h4⟩ := h
  exact doesX_of h2 (create_any L M nm w h2.disk hs) h3 h4 hk hM
theorem sync_x (h : HasX w0 w d M X) (nm : ByteArray) (hs : nm.size ≤ 4294967296) (hk : (M.miss nm : Int) = k) (hM : M.syncM nm = M') : Calls Try.prog 30 #[.pointer (some ⟨d, 0, none⟩), .string nm] w (DoesX w0 d M' X k) := by
  obtain ⟨L, rfl, h2, h3, h4⟩ := h
  exact doesX_of h2 (sync_any L M nm w h2.disk hs) h3 h4 hk hM
theorem names_x (h : HasX w0 w d M X) (hM : M.namesM = M') : Calls Try.prog 16 #[.pointer (some ⟨d, 0, none⟩)] w (DoesX w0 d M' X 0) := by
  obtain ⟨L, rfl, h2, h3, h4⟩ := h
  exact doesX_of h2 (names_any L M w h2.disk) h3 h4 rfl hM
theorem rename_x (h : HasX w0 w d M X) (nm to : ByteArray) (hs : nm.size ≤ 4294967296) (ht : to.size ≤ 4294967296) (hk : (M.renameE nm to : Int) = k) (hM : M.renameM nm to = M') :
    Calls Try.prog 23 #[.pointer (some ⟨d, 0, none⟩), .string nm, .string to] w (DoesX w0 d M' X k) := by
  obtain ⟨L, rfl, h2, h3, h4⟩ := h
  exact doesX_of h2 (rename_any L M nm to w h2.disk hs ht) h3 h4 hk hM
theorem append_x (h : HasX w0 w d M X) (nm : ByteArray) (hs : nm.size ≤ 4294967296) (ao : Option Addr) (n cap : Nat) (l : List Nat) (hr : Row8 w ao n cap l) (hk : (M.appendE nm n : Int) = k) (hM : M.appendM nm l = M') :
    Calls Try.prog 21 #[.pointer (some ⟨d, 0, none⟩), .string nm, .slice ao n cap] w (DoesX w0 d M' X k) := by
  obtain ⟨L, rfl, h2, h3, h4⟩ := h
  exact doesX_of h2 (append_any L M nm ao n cap l w h2.disk hs hr) h3 h4 hk hM
end
end Go.Proofs.Ytkmanpmaflpgoaa
