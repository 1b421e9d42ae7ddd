/-
  WHAT IS PROVED: a disk beside a row of names that the same call made: its operations leave the row alone.
-/
import Derived.Test.YtdeggklfjdgfjaaHas
namespace Go.Proofs.Ytdeggklfjdgfjaa
open Go.RowKit Go.Lib

/-- a disk's own blocks bear its own types -/
theorem DiskAt.typed {w : World} {L : LayD} {M : DiskM} (h : DiskAt w L M) {k : Nat} (hk : L.own k) : ∃ cur t, w.heap[k]? = some (.cells cur t (0, 0)) ∧ t ≠ 9 := by
  rcases hk with rfl | hk | hk | hk | ⟨v, hv, hk⟩
  · exact ⟨_, _, h.disk, by decide⟩
  · obtain ⟨cur, hc⟩ := ownsRow_block h.now hk; exact ⟨_, _, hc, by decide⟩
  · obtain ⟨cur, hc⟩ := ownsRow_block h.sure hk; exact ⟨_, _, hc, by decide⟩
  · obtain ⟨i, hi⟩ := List.getElem?_of_mem hk
    have hl : i < M.files.length := by rw [← h.nfb]; exact (List.getElem?_eq_some_iff.1 hi).1
    obtain ⟨f, b, v, h1, h2, h3⟩ := h.filed hl
    rw [hi] at h2; cases h2
    exact ⟨_, _, (h.file i f _ v h1 hi h3).1, by decide⟩
  · obtain ⟨i, hi⟩ := List.getElem?_of_mem hv
    have hl : i < M.files.length := by rw [← h.nvb]; exact (List.getElem?_eq_some_iff.1 hi).1
    obtain ⟨f, b, v', h1, h2, h3⟩ := h.filed hl
    rw [hi] at h3; cases h3
    obtain ⟨cur, hc⟩ := ownsRow_block (h.file i f b _ h1 h2 hi).2 hk
    exact ⟨_, _, hc, by decide⟩

/-- a disk of the call, and a row of names beside it -/
def HasK (w0 w : World) (d : Nat) (M : DiskM) (r : Nat) (cs : Array Value) : Prop :=
  (∃ L : LayD, L.d = d ∧ DiskAt w L M ∧ (∀ k, L.own k → w0.heap.size ≤ k) ∧ Below w0.heap.size w0 w) ∧ w.heap[r]? = some (.cells cs 9 (0, 0))

section
variable {w0 w : World} {d r : Nat} {M M' : DiskM} {k : Int} {cs : Array Value}
theorem HasK.has (h : HasK w0 w d M r cs) : Has w0 w d M := h.1
theorem HasK.below (h : HasK w0 w d M r cs) : Below w0.heap.size w0 w := h.has.below
theorem HasK.cell (h : HasK w0 w d M r cs) (j : Nat) : w.cell? ⟨r, j, none⟩ = cs[j]? := cell_of_block h.2 j
theorem HasK.kept {w' : World} (h : HasK w0 w d M r cs) (hb : Below w.heap.size w w') : HasK w0 w' d M r cs := ⟨h.has.kept hb, (hb.block r (lt_of_block h.2)).trans h.2⟩
theorem HasK.alloc (h : HasK w0 w d M r cs) (o : Obj) : HasK w0 (w.alloc o) d M r cs := h.kept (below_alloc w o)
theorem HasK.drew (h : HasK w0 w d M r cs) : HasK w0 w.drew d M r cs := h.kept (Below.refl _ _).drew
theorem HasK.drewN (h : HasK w0 w d M r cs) (n : Nat) : HasK w0 (w.drewN n) d M r cs := h.kept (Below.drewN_refl w n)

/-- a call that tells an error, and what it leaves -/
def DoesK (w0 : World) (d : Nat) (M : DiskM) (r : Nat) (cs : Array Value) (k : Int) (e : Ending) (w' : World) : Prop := e = .returned (.int .i64 k) ∧ HasK w0 w' d M r cs

theorem doesK_of {P : Program} {L : LayD} {M' M'' : DiskM} {n : Nat} {f : FuncId} {args : Array Value} {M : DiskM} (hc : Calls P f args w (Turns L M' n w)) (ho : ∀ k, L.own k → w0.heap.size ≤ k) (hb : Below w0.heap.size w0 w)
    (hd : DiskAt w L M) (hr : w.heap[r]? = some (.cells cs 9 (0, 0))) (hk : (n : Int) = k) (hM : M' = M'') : Calls P f args w (DoesK w0 L.d M'' r cs k) :=
  hc.mono fun e w' ⟨he, L', m, h⟩ => ⟨by rw [he, hk], ⟨L', m.d, hM ▸ h, m.from hb.size ho, hb.trans (m.below hb.size ho)⟩,
    (m.block r (lt_of_block hr) (fun ho => by
      obtain ⟨cur, t, hc, ht⟩ := hd.typed ho
      exact ne_of_block hr hc (fun e => ht e.symm) rfl)).trans hr⟩

theorem create_k (h : HasK w0 w d M r cs) (nm : ByteArray) (hs : nm.size ≤ 4294967296) (hk : (M.createE nm : Int) = k) (hM : M.createM nm = M') : Calls Try.prog 15 #[.pointer (some ⟨d, 0, none⟩), .string nm] w (DoesK w0 d M' r cs k) := by
  obtain ⟨⟨L, rfl, h2, h3, h4⟩, h5⟩ := h
  exact doesK_of (create_any L M nm w h2 hs) h3 h4 h2 h5 hk hM
theorem sync_k (h : HasK w0 w d M r cs) (nm : ByteArray) (hs : nm.size ≤ 4294967296) (hk : (M.miss nm : Int) = k) (hM : M.syncM nm = M') : Calls Try.prog 19 #[.pointer (some ⟨d, 0, none⟩), .string nm] w (DoesK w0 d M' r cs k) := by
  obtain ⟨⟨L, rfl, h2, h3, h4⟩, h5⟩ := h
  exact doesK_of (sync_any L M nm w h2 hs) h3 h4 h2 h5 hk hM
theorem names_k (h : HasK w0 w d M r cs) (hM : M.namesM = M') : Calls Try.prog 20 #[.pointer (some ⟨d, 0, none⟩)] w (DoesK w0 d M' r cs 0) := by
  obtain ⟨⟨L, rfl, h2, h3, h4⟩, h5⟩ := h
  exact doesK_of (names_any L M w h2) h3 h4 h2 h5 rfl hM
theorem rename_k (h : HasK w0 w d M r cs) (nm to : ByteArray) (hs : nm.size ≤ 4294967296) (ht : to.size ≤ 4294967296) (hk : (M.renameE nm to : Int) = k) (hM : M.renameM nm to = M') :
    Calls Try.prog 17 #[.pointer (some ⟨d, 0, none⟩), .string nm, .string to] w (DoesK w0 d M' r cs k) := by
  obtain ⟨⟨L, rfl, h2, h3, h4⟩, h5⟩ := h
  exact doesK_of (rename_any L M nm to w h2 hs ht) h3 h4 h2 h5 hk hM
theorem append_k (h : HasK w0 w d M r cs) (nm : ByteArray) (hs : nm.size ≤ 4294967296) (ao : Option Addr) (n cap : Nat) (l : List Nat) (hr : Row8 w ao n cap l) (hk : (M.appendE nm n : Int) = k) (hM : M.appendM nm l = M') :
    Calls Try.prog 18 #[.pointer (some ⟨d, 0, none⟩), .string nm, .slice ao n cap] w (DoesK w0 d M' r cs k) := by
  obtain ⟨⟨L, rfl, h2, h3, h4⟩, h5⟩ := h
  exact doesK_of (append_any L M nm ao n cap l w h2 hs hr) h3 h4 h2 h5 hk hM
end
end Go.Proofs.Ytdeggklfjdgfjaa
