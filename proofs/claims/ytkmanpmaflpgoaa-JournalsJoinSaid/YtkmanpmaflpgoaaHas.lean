/-
  WHAT IS PROVED: a disk that is a call's own, and its calls' contracts at known answers.
-/
import Derived.Test.YtkmanpmaflpgoaaAll
namespace Go.Proofs.Ytkmanpmaflpgoaa
open Go.RowKit Go.Lib

/-- a disk of the call that began in world w0: it is as M says; nothing that was there when the call began has turned -/
def Has (w0 w : World) (d : Nat) (M : DiskM) : Prop := ∃ L : LayD, L.d = d ∧ DiskAt w L M ∧ (∀ k, L.own k → w0.heap.size ≤ k) ∧ Below w0.heap.size w0 w

theorem Has.below {w0 w : World} {d : Nat} {M : DiskM} (h : Has w0 w d M) : Below w0.heap.size w0 w := by obtain ⟨L, _, _, _, h⟩ := h; exact h
theorem Has.kept {w0 w w' : World} {d : Nat} {M : DiskM} (h : Has w0 w d M) (hb : Below w.heap.size w w') : Has w0 w' d M := by
  obtain ⟨L, h1, h2, h3, h4⟩ := h
  exact ⟨L, h1, h2.below hb, h3, below_next h4 hb⟩
theorem Has.alloc {w0 w : World} {d : Nat} {M : DiskM} (h : Has w0 w d M) (o : Obj) : Has w0 (w.alloc o) d M := h.kept (below_alloc w o)
theorem Has.drew {w0 w : World} {d : Nat} {M : DiskM} (h : Has w0 w d M) : Has w0 w.drew d M := h.kept (Below.refl _ _).drew
theorem Has.drewN {w0 w : World} {d : Nat} {M : DiskM} (h : Has w0 w d M) (k : Nat) : Has w0 (w.drewN k) d M := h.kept (Below.drewN_refl w k)

/-- a call that tells an error, and what it leaves -/
def Does (w0 : World) (d : Nat) (M : DiskM) (k : Int) (e : Ending) (w' : World) : Prop := e = .returned (.int .i64 k) ∧ Has w0 w' d M

theorem does_of {P : Program} {w0 w : World} {L : LayD} {M' M'' : DiskM} {n : Nat} {k : Int} {f : FuncId} {args : Array Value} (hc : Calls P f args w (Turns L M' n w)) (ho : ∀ k, L.own k → w0.heap.size ≤ k) (hb : Below w0.heap.size w0 w)
    (hk : (n : Int) = k) (hM : M' = M'') : Calls P f args w (Does w0 L.d M'' k) :=
  hc.mono fun _ _ ⟨he, L', m, h⟩ => ⟨by rw [he, hk], L', m.d, hM ▸ h, m.from hb.size ho, hb.trans (m.below hb.size ho)⟩

theorem new_h {M : DiskM} (n : Nat) (w0 w : World) (hb : Below w0.heap.size w0 w) (h1 : 1 ≤ n) (h2 : n ≤ 8388608) (hM : newM n = M) :
    Calls Try.prog 32 #[.int .i64 n] w fun e w' => ∃ d, e = .returned (.tuple #[.pointer (some ⟨d, 0, none⟩), .int .i64 0]) ∧ Has w0 w' d M ∧ Below w.heap.size w w' :=
  (new_yes n w h1 h2).mono fun _ _ ⟨L, he, hd, ho, hb'⟩ => ⟨L.d, he, ⟨L, rfl, hM ▸ hd, fun k hk => Nat.le_trans hb.size (ho k hk), below_next hb hb'⟩, hb'⟩

section
variable {w0 w : World} {d : Nat} {M M' : DiskM} {k : Int}

theorem create_h (h : Has w0 w d M) (nm : ByteArray) (hs : nm.size ≤ 4294967296) (hk : (M.createE nm : Int) = k) (hM : M.createM nm = M') : Calls Try.prog 20 #[.pointer (some ⟨d, 0, none⟩), .string nm] w (Does w0 d M' k) := by
  obtain ⟨L, rfl, h2, h3, h4⟩ := h
  exact does_of (create_any L M nm w h2 hs) h3 h4 hk hM
theorem rename_h (h : Has w0 w d M) (nm to : ByteArray) (hs : nm.size ≤ 4294967296) (ht : to.size ≤ 4294967296) (hk : (M.renameE nm to : Int) = k) (hM : M.renameM nm to = M') :
    Calls Try.prog 23 #[.pointer (some ⟨d, 0, none⟩), .string nm, .string to] w (Does w0 d M' k) := by
  obtain ⟨L, rfl, h2, h3, h4⟩ := h
  exact does_of (rename_any L M nm to w h2 hs ht) h3 h4 hk hM
theorem sync_h (h : Has w0 w d M) (nm : ByteArray) (hs : nm.size ≤ 4294967296) (hk : (M.miss nm : Int) = k) (hM : M.syncM nm = M') : Calls Try.prog 30 #[.pointer (some ⟨d, 0, none⟩), .string nm] w (Does w0 d M' k) := by
  obtain ⟨L, rfl, h2, h3, h4⟩ := h
  exact does_of (sync_any L M nm w h2 hs) h3 h4 hk hM
theorem names_h (h : Has w0 w d M) (hM : M.namesM = M') : Calls Try.prog 16 #[.pointer (some ⟨d, 0, none⟩)] w (Does w0 d M' 0) := by
  obtain ⟨L, rfl, h2, h3, h4⟩ := h
  exact does_of (names_any L M w h2) h3 h4 rfl hM
theorem append_h (h : Has w0 w d M) (nm : ByteArray) (hs : nm.size ≤ 4294967296) (ao : Option Addr) (n cap : Nat) (l : List Nat) (hr : Row8 w ao n cap l) (hk : (M.appendE nm n : Int) = k) (hM : M.appendM nm l = M') :
    Calls Try.prog 21 #[.pointer (some ⟨d, 0, none⟩), .string nm, .slice ao n cap] w (Does w0 d M' k) := by
  obtain ⟨L, rfl, h2, h3, h4⟩ := h
  exact does_of (append_any L M nm ao n cap l w h2 hs hr) h3 h4 hk hM
theorem room_h (h : Has w0 w d M) (hk : (M.left : Int) = k) : Calls Try.prog 38 #[.pointer (some ⟨d, 0, none⟩)] w fun e w' => e = .returned (.int .i64 k) ∧ Below w.heap.size w w' := by
  obtain ⟨L, rfl, h2, h3, h4⟩ := h
  exact (room_any L M w h2).mono fun _ _ ⟨he, hb⟩ => ⟨by rw [he, hk], hb⟩
theorem size_h (h : Has w0 w d M) (nm : ByteArray) (hs : nm.size ≤ 4294967296) {n : Int} (hn : (M.sizeN nm : Int) = n) (hk : (M.miss nm : Int) = k) :
    Calls Try.prog 28 #[.pointer (some ⟨d, 0, none⟩), .string nm] w fun e w' => e = .returned (.tuple #[.int .i64 n, .int .i64 k]) ∧ Below w.heap.size w w' := by
  obtain ⟨L, rfl, h2, h3, h4⟩ := h
  exact (size_any L M nm w h2 hs).mono fun _ _ ⟨he, hb⟩ => ⟨by rw [he, hn, hk], hb⟩
theorem fail_h (h : Has w0 w d M) (keep : Nat) (names : Bool) (hk : keep ≤ 9223372036854775807) (hM : M.failM keep names = M') :
    Calls Try.prog 22 #[.pointer (some ⟨d, 0, none⟩), .int .i64 keep, .bool names] w fun e w' => ∃ d', e = .returned (.tuple #[.pointer (some ⟨d', 0, none⟩), .int .i64 0]) ∧ Has w0 w' d' M' ∧ Below w.heap.size w w' := by
  obtain ⟨L, rfl, h2, h3, h4⟩ := h
  exact (fail_any L M keep names w h2 hk).mono fun _ _ ⟨L', he, hd, ho, hb'⟩ => ⟨L'.d, he, ⟨L', rfl, hM ▸ hd, fun k hk => Nat.le_trans h4.size (ho k hk), below_next h4 hb'⟩, hb'⟩
theorem read_h (h : Has w0 w d M) (nm : ByteArray) (hs : nm.size ≤ 4294967296) (a n : Int) (ha : a ≤ 9223372036854775807) (hn : n ≤ 9223372036854775807) {l : List Nat} (hl : M.readB nm a n = l) (hk : (M.readE nm a n : Int) = k) :
    Calls Try.prog 35 #[.pointer (some ⟨d, 0, none⟩), .string nm, .int .i64 a, .int .i64 n] w fun e w' => ∃ ao cap, e = .returned (.tuple #[.slice ao l.length cap, .int .i64 k]) ∧ Row8 w' ao l.length cap l ∧ Below w.heap.size w w' := by
  obtain ⟨L, rfl, h2, h3, h4⟩ := h
  refine (read_any L M nm a n ha hn w h2 hs).mono ?_
  rintro e w' ⟨v, he, hown, hb⟩
  rw [hl] at hown
  have hby : ∀ x ∈ l, x < 256 := by
    intro x hx
    rw [← hl] at hx
    unfold DiskM.readB at hx
    split at hx
    · rename_i h0
      have hm : M.miss nm = 0 := by
        unfold DiskM.readE at h0
        split at h0
        · rename_i hc
          split at h0
          · rename_i ht
            unfold DiskM.miss; rw [hc.1, ht]; rfl
          · omega
        · omega
      obtain ⟨e, he, _, h3⟩ := of_mem h2 hm
      rw [h3] at hx
      obtain ⟨v, _, _, _, _, h5, _⟩ := h2.of (.inl he)
      exact h5 x (List.mem_of_mem_drop (List.mem_of_mem_take hx))
    · simp at hx
  obtain ⟨ao, cap, rfl, hrow, _⟩ := Row8.of_owns hown hby
  exact ⟨ao, cap, by rw [he, hk], hrow, hb⟩
end
end Go.Proofs.Ytkmanpmaflpgoaa
