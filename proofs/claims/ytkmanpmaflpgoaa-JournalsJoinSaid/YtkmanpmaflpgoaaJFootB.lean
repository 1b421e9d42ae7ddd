/-
  WHAT IS PROVED: disks of the call's own with the blocks they take up: items turned, put first, left; contracts that keep account of those blocks; two disks side by side.
-/
import Derived.Test.YtkmanpmaflpgoaaJFoot
namespace Go.Proofs.Ytkmanpmaflpgoaa
open Go.RowKit Go.Lib

theorem Held.perm {w : World} {L : LayD} {M : DiskM} {X Y : List (Nat × Obj)} (h : Held w L M X) (hp : X.Perm Y) : Held w L M Y :=
  ⟨h.disk, fun x hx => h.item x (hp.mem_iff.2 hx), (hp.pairwise_iff (fun hab => fun e => hab e.symm)).1 h.apart⟩
theorem ownX_perm {L : LayD} {X Y : List (Nat × Obj)} (hp : X.Perm Y) : ownX L X = ownX L Y := by
  funext k
  apply propext
  unfold ownX
  constructor
  · rintro (h | ⟨x, hx, e⟩)
    · exact .inl h
    · exact .inr ⟨x, hp.mem_iff.1 hx, e⟩
  · rintro (h | ⟨x, hx, e⟩)
    · exact .inl h
    · exact .inr ⟨x, hp.mem_iff.2 hx, e⟩

section
variable {w0 w w' : World} {d : Nat} {M M' : DiskM} {k : Int} {X Y : List (Nat × Obj)} {S S' : Nat → Prop}

theorem HasS.perm (h : HasS w0 w d M X S) (hp : X.Perm Y) : HasS w0 w d M Y S := by
  obtain ⟨L, h1, h2, rfl, h3, h4⟩ := h
  exact ⟨L, h1, h2.perm hp, ownX_perm hp, h3, h4⟩
theorem HasS.item {x : Nat × Obj} (h : HasS w0 w d M X S) (hx : x ∈ X) : w.heap[x.1]? = some x.2 := h.x.item hx
theorem HasS.mem {x : Nat × Obj} (h : HasS w0 w d M X S) (hx : x ∈ X) : S x.1 := by
  obtain ⟨L, h1, h2, rfl, h3, h4⟩ := h
  exact .inr ⟨x, hx, rfl⟩
theorem HasS.drop {x : Nat × Obj} (h : HasS w0 w d M (x :: X) S) : ∃ S', HasS w0 w d M X S' ∧ ∀ k, S' k → S k := by
  obtain ⟨L, h1, h2, rfl, h3, h4⟩ := h
  have hs : ∀ k, ownX L X k → ownX L (x :: X) k := fun k hk => by
    rcases hk with hk | ⟨y, hy, e⟩
    · exact .inl hk
    · exact .inr ⟨y, by simp [hy], e⟩
  exact ⟨_, ⟨L, h1, h2.drop, rfl, fun k hk => h3 k (hs k hk), h4⟩, hs⟩
/-- a block that was made is taken among those beside the disk -/
theorem HasS.add (h : HasS w0 w d M X S) (hb : Below w.heap.size w w') {k : Nat} {o : Obj} (hk : w.heap.size ≤ k) (ho : w'.heap[k]? = some o) : ∃ S', HasS w0 w' d M ((k, o) :: X) S' ∧ MovesX S w S' w' := by
  obtain ⟨L, h1, h2, rfl, h3, h4⟩ := h
  obtain ⟨h5, h6⟩ := h2.add hb hk ho
  exact ⟨_, ⟨L, h1, h5, rfl, h6.from h4.size h3, below_next h4 hb⟩, h6⟩
/-- the first of the others is turned -/
theorem HasS.turn {b : Nat} {o o' : Obj} (h : HasS w0 w d M ((b, o) :: X) S) (ho : w'.heap[b]? = some o') (hk : ∀ i, i ≠ b → w'.heap[i]? = w.heap[i]?) (hb : Below w0.heap.size w0 w') : HasS w0 w' d M ((b, o') :: X) S := by
  obtain ⟨L, h1, h2, rfl, h3, h4⟩ := h
  refine ⟨L, h1, h2.turn ho hk, ?_, h3, hb⟩
  funext i
  apply propext
  unfold ownX
  simp only [List.mem_cons, exists_eq_or_imp]
theorem HasS.moves (h : HasS w0 w d M X S) (h' : HasS w0 w' d M' Y S') (hm : MovesX S w S' w') : ∀ i, S' i → S i ∨ w.heap.size ≤ i := hm.news
/-- one cell of the first of the others is set -/
theorem HasS.set {b : Nat} {cs : Array Value} {t : TypeId} {fr : Nat × Nat} (h : HasS w0 w d M ((b, .cells cs t fr) :: X) S) (i : Nat) (v : Value) : HasS w0 (w.setCell ⟨b, i, none⟩ v) d M ((b, .cells (cs.setIfInBounds i v) t fr) :: X) S ∧ MovesX S w S (w.setCell ⟨b, i, none⟩ v) := by
  have hi := h.item (x := (b, .cells cs t fr)) (by simp)
  have hb := h.mem (x := (b, .cells cs t fr)) (by simp)
  have hf := h.from b hb
  refine ⟨h.turn (b := b) ?_ (fun j hj => Below.heap_setCell _ _ _ _ hj) (h.below.setCell (p := ⟨b, i, none⟩) hf v), ⟨rfl, rfl, rfl, by simp, fun k _ hn => Below.heap_setCell _ _ _ _ (fun e => hn (by rw [e]; exact hb)), fun k hk => .inl hk⟩⟩
  have hi' : w.heap[b]? = some (.cells cs t fr) := hi
  unfold World.setCell
  simp only [Array.getElem?_modify, if_true, hi', Option.map_some, Option.isSome_none, Bool.false_eq_true, if_false]
/-- another disk's call: this one is as it was -/
theorem HasS.beside {c : Nat} {Mc : DiskM} {Xc : List (Nat × Obj)} {T : Nat → Prop} (h : HasS w0 w c Mc Xc T) (hd : HasS w0 w' d M' Y S') (hm : MovesX S w S' w') (hs : ∀ k, T k → ¬ S k) : HasS w0 w' c Mc Xc T ∧ ∀ k, T k → ¬ S' k := by
  refine ⟨h.same (fun k hk => hm.block k (h.lt k hk) (hs k hk)) hd.below, fun k hk hk' => ?_⟩
  rcases hm.news k hk' with h1 | h1
  · exact hs k hk h1
  · have := h.lt k hk; omega

theorem create_s (h : HasS w0 w d M X S) (nm : ByteArray) (hs : nm.size ≤ 4294967296) (hk : (M.createE nm : Int) = k) (hM : M.createM nm = M') : Calls Try.prog 20 #[.pointer (some ⟨d, 0, none⟩), .string nm] w (DoesS w0 w d M' X S k) := by
  obtain ⟨L, rfl, h2, rfl, h3, h4⟩ := h
  exact doesS_of h2 (create_any L M nm w h2.disk hs) h3 h4 hk hM
theorem rename_s (h : HasS w0 w d M X S) (nm to : ByteArray) (hs : nm.size ≤ 4294967296) (ht : to.size ≤ 4294967296) (hk : (M.renameE nm to : Int) = k) (hM : M.renameM nm to = M') :
    Calls Try.prog 23 #[.pointer (some ⟨d, 0, none⟩), .string nm, .string to] w (DoesS w0 w d M' X S k) := by
  obtain ⟨L, rfl, h2, rfl, h3, h4⟩ := h
  exact doesS_of h2 (rename_any L M nm to w h2.disk hs ht) h3 h4 hk hM
theorem append_s (h : HasS w0 w d M X S) (nm : ByteArray) (hs : nm.size ≤ 4294967296) (ao : Option Addr) (n cap : Nat) (l : List Nat) (hr : Row8 w ao n cap l) (hk : (M.appendE nm n : Int) = k) (hM : M.appendM nm l = M') :
    Calls Try.prog 21 #[.pointer (some ⟨d, 0, none⟩), .string nm, .slice ao n cap] w (DoesS w0 w d M' X S k) := by
  obtain ⟨L, rfl, h2, rfl, h3, h4⟩ := h
  exact doesS_of h2 (append_any L M nm ao n cap l w h2.disk hs hr) h3 h4 hk hM

set_option maxRecDepth 100000 in
set_option maxHeartbeats 2000000 in
theorem jsync_s {j stop : Nat} {nm : ByteArray} (h : HasS w0 w d M ((j, jObj d nm stop) :: X) S) (hs : nm.size ≤ 4294967296) (hk : (M.miss nm : Int) = k) (hM : M.syncM nm = M') :
    Calls Try.prog 11 #[.pointer (some ⟨j, 0, none⟩)] w (DoesS w0 w d M' ((j, jObj d nm stop) :: X) S k) := by
  obtain ⟨c0, c1⟩ := h.x.jcell
  have H := Lib.hid h
  clear h
  go_enter Try.func11, Try.ntmps11
  go_wp2_with fail
  refine (jnone_no j d w c0).mono ?_
  rintro e w' ⟨rfl, rfl⟩
  go_wp2_with fail
  go_region_held3 (fun x => x.cell? ⟨j, 0, none⟩ = some (.pointer (some ⟨d, 0, none⟩)) ∧ x.cell? ⟨j, 1, none⟩ = some (.string nm)) (first | exact ⟨c0, c1⟩ | exact SS.out) ((first
    | (go_at_call 30; refine (sync_s H.out.drew nm hs hk hM).mono ?_; rintro e w3 ⟨rfl, S3, h3, m3⟩; have H3 := Lib.hid h3; have M3 := Lib.hid m3; have SS := Lib.hid h3.x.jcell; clear h3 m3)))
  go_wp2
  go_ret
  exact ⟨rfl, _, H3.out, ⟨M3.out.os, M3.out.tape, M3.out.output, M3.out.size, M3.out.block, M3.out.news⟩⟩

/-- a journal is opened of a file that is there -/
def OpensS (w0 w : World) (d : Nat) (M : DiskM) (X : List (Nat × Obj)) (S : Nat → Prop) (nm : ByteArray) (rs : List (List Nat)) (stop : Nat) (e : Ending) (w' : World) : Prop :=
  ∃ j ao cap S', e = .returned (.tuple #[.pointer (some ⟨j, 0, none⟩), .slice ao rs.length cap, .int .i64 0]) ∧ HasS w0 w' d M ((j, jObj d nm stop) :: X) S' ∧ MovesX S w S' w' ∧ RowR w' ao rs.length cap rs ∧ w.heap.size ≤ j ∧ ∀ a, ao = some a → ¬ S' a.block

theorem open_s (h : HasS w0 w d M X S) (nm : ByteArray) (hs : nm.size ≤ 4294967296) (hm : M.miss nm = 0) {rs : List (List Nat)} {stop : Nat} (h1 : (readM (M.all nm)).recs = rs) (h2 : (readM (M.all nm)).stop = stop) :
    Calls Try.prog 9 #[.pointer (some ⟨d, 0, none⟩), .string nm] w fun e w' => ∃ j ao cap S', e = .returned (.tuple #[.pointer (some ⟨j, 0, none⟩), .slice ao rs.length cap, .int .i64 0]) ∧ HasS w0 w' d M ((j, jObj d nm stop) :: X) S' ∧ MovesX S w S' w' ∧ RowR w' ao rs.length cap rs ∧ w.heap.size ≤ j ∧ Below w.heap.size w w' := by
  subst h1 h2
  have h' := h
  obtain ⟨L, rfl, h2, rfl, h3, h4⟩ := h
  refine (open_0 L M nm w h2.disk hs hm).mono ?_
  rintro e w' ⟨⟨j, ao, cap, he, hj, hjl, hr⟩, hb⟩
  obtain ⟨S', h5, h6⟩ := h'.add hb hjl hj
  exact ⟨j, ao, cap, S', he, h5, h6, hr, hjl, hb⟩
theorem open_new_s (h : HasS w0 w d M X S) (nm : ByteArray) (hs : nm.size ≤ 4294967296) (hm : M.miss nm = 7) (hc : M.createE nm = 0) (hM : M.createM nm = M') :
    Calls Try.prog 9 #[.pointer (some ⟨d, 0, none⟩), .string nm] w fun e w' => ∃ j ao cap S', e = .returned (.tuple #[.pointer (some ⟨j, 0, none⟩), .slice ao 0 cap, .int .i64 0]) ∧ HasS w0 w' d M' ((j, jObj d nm 0) :: X) S' ∧ MovesX S w S' w' ∧ w.heap.size ≤ j := by
  subst hM
  obtain ⟨L, rfl, h2, rfl, h3, h4⟩ := h
  refine (open_7 L M nm w h2.disk hs hm hc).mono ?_
  rintro e w' ⟨⟨j, ao, cap, he, hj, hjl, hr⟩, L', w1, hmv, hd, hb, hjw⟩
  rw [readM_nil.1] at he hr
  rw [readM_nil.2] at hj
  obtain ⟨hh, hm2⟩ := h2.moves hmv hd
  have hx1 := HasS.of hmv.d hh hm2 h3 h4
  obtain ⟨S', h5, h6⟩ := hx1.add hb (hjw _ _ _ he) hj
  exact ⟨j, ao, cap, S', he, h5, hm2.trans h6, hjl⟩
end
end Go.Proofs.Ytkmanpmaflpgoaa
