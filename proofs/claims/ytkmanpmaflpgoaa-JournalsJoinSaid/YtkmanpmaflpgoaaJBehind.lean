/-
  WHAT IS PROVED: contract of journals: bytes with a part behind them.
-/
import Derived.Test.YtkmanpmaflpgoaaJSum
import Derived.Test.YtkmanpmaflpgoaaOpsD
namespace Go.Proofs.Ytkmanpmaflpgoaa
open Go.RowKit Go.Lib

theorem Row8.grown {w w' : World} {ao : Option Addr} {n cap : Nat} {l : List Nat} {row : Option Nat} (h : Row8 w ao n cap l) (hg : w.grownBy w' row) (hs : ∀ a, ao = some a → 0 < n → row ≠ some a.block) : Row8 w' ao n cap l := by
  refine ⟨h.len, h.room, h.most, h.nil, fun a ha j hj => ?_, h.byte⟩
  have hlt := h.lt a ha (by omega)
  have h1 := h.cell a ha j hj
  have hb := hg.block a.block hlt (fun e => hs a ha (by omega) e.symm)
  have hbl : (a.add j).block = a.block := by unfold Addr.add; split <;> rfl
  rw [← h1]
  unfold World.cell?
  rw [hbl, hb]

theorem head_u8 (k : Nat) (d : List Nat) : ∀ x ∈ headB k d, k < 256 → x < 256 := by
  intro x hx hk
  unfold headB at hx
  simp only [List.mem_cons, List.not_mem_nil, or_false] at hx
  rcases hx with h | h | h | h | h | h | h <;> omega

theorem grown_any {w w' : World} (h : Below w.heap.size w w') (row : Option Nat) : w.grownBy w' row := ⟨h.os, h.tape, h.output, h.size, fun k hk _ => h.block k hk⟩

/-- a slice of the call's own with more behind it -/
def GrewB (v : Value) (l : List Nat) (w : World) (e : Ending) (w' : World) : Prop :=
  ∃ v', e = .returned v' ∧ w'.ownsRow 0 5 1 v' l.length (cells8 l) ∧ w.grownBy w' v.ownBlock ∧ (v'.ownBlock = v.ownBlock ∨ ∃ b, v'.ownBlock = some b ∧ w.heap.size ≤ b)

/-- bytes that are written out: a new block -/
theorem row_lit (w : World) (cs : Array Value) (fr : Nat × Nat) (l : List Nat) (n B : Nat) (hB : w.heap.size = B) (hn : l.length = n) (hl : ∀ x ∈ l, x < 256) (h : cs = (cells8 l).toArray) (h1 : n ≤ 1000 := by decide) :
    Row8 (w.alloc (.cells cs 5 fr)) (some ⟨B, 0, none⟩) n n l := by
  subst h
  exact row_new w l n B fr hB hn hl h1

set_option maxRecDepth 100000 in
set_option maxHeartbeats 4000000 in
theorem behind_n (k : Nat) (hk : k < 256) (ao : Option Addr) (n cap : Nat) (d : List Nat) (v : Value) (xs : List Nat) (w : World) (hr : Row8 w ao n cap d) (hown : w.ownsRow 0 5 1 v xs.length (cells8 xs))
    (hd : n < 65536) (hx : xs.length ≤ 1000000000) (hs : ∀ a, ao = some a → 0 < n → v.ownBlock ≠ some a.block) :
    Calls Try.prog 46 #[.agg #[.int .u8 k, .slice ao n cap], v] w fun e w' => GrewB v (xs ++ partB k d) w e w' := by
  have hlen := hr.len
  have HLEN := Lib.hid hlen
  have hcrc := crcN_lt k d
  have HH : Hid (∀ x ∈ headB k d, x < 256) := fun x hx => head_u8 k d x hx hk
  have HC : Hid (#[Value.int .u8 ((crcN k d : Nat) / 16777216 : Int), .int .u8 ((crcN k d : Nat) / 65536 % 256 : Int), .int .u8 ((crcN k d : Nat) / 256 % 256 : Int), .int .u8 ((crcN k d : Nat) % 256 : Int), .int .u8 ((n : Int) / 256), .int .u8 ((n : Int) % 256), .int .u8 k] = (cells8 (headB k d)).toArray) := by
    show _ = _
    simp [cells8, headB, hlen]
    omega
  obtain ⟨W, hW⟩ : ∃ W, W = w.alloc (.cells #[.int .u8 k, .slice ao n cap] 85) := ⟨_, rfl⟩
  have hnew : W.heap[w.heap.size]? = some (.cells #[.int .u8 k, .slice ao n cap] 85 (0, 0)) := by rw [hW]; exact heap_alloc_new w _
  have hz : ∀ wk, Below W.heap.size W wk → wk.cell? ⟨w.heap.size, 0, none⟩ = some (.int .u8 k) ∧ wk.cell? ⟨w.heap.size, 1, none⟩ = some (.slice ao n cap) := by
    intro wk hb
    have hh := (hb.block w.heap.size (by rw [hW]; simp)).trans hnew
    exact ⟨cell_of_block hh 0, cell_of_block hh 1⟩
  have HZ := Lib.hid hz
  have hBW : Below w.heap.size w W := by rw [hW]; exact below_alloc w _
  have HR := Lib.hid (hr.kept hBW)
  have hownW := ownsRow_same hown (w' := W) (fun k hk => hBW.block k (hown.lt k hk).2)
  have HOWN := Lib.hid hownW
  have HBW := Lib.hid hBW
  have HNEW := Lib.hid hnew
  have HVB : Hid (∀ b, v.ownBlock = some b → b < w.heap.size) := fun b hb => (hown.lt b hb).2
  have hWsz : w.heap.size < W.heap.size := by rw [hW]; simp
  obtain ⟨av, cv, rfl⟩ := own_slice hown
  have q0 := bwOf_cell W _ _ (hz W (Below.refl _ _)).1
  have q1 := bwOf_cell W _ _ (hz W (Below.refl _ _)).2
  have HS := Lib.hid hs
  clear hr hz hownW hBW hown hnew hlen hs
  go_enter Try.func46, Try.ntmps46
  go_wp2_with fail
  rw [← hW]
  refine wp_region_bw (w := W) (by kernel_rfl) (by kernel_rfl) ?_
  repeat (go_big_quiet_step ((go_at_call 55; exact below_of (checksum_n k hk ao n cap d _ (bwOf_row HR.out _)))))
  refine wpQuiet_nil ?_
  rintro w1 ⟨m1, rfl⟩
  have HB1 := Lib.hid (bwOf_below W m1)
  generalize bwOf W m1 = w1 at *
  obtain ⟨z0, z1⟩ := HZ.out _ HB1.out
  clear q0 q1
  have hown1 := ownsRow_same HOWN.out (w' := w1) (fun k hk => HB1.out.block k (HOWN.out.lt k hk).2)
  have HO1 := Lib.hid hown1
  have hsz1 := HB1.out.size
  clear hown1
  go_wp2_with (at_builtin; refine wpList_append_bytes rfl _ _ rfl _ _ xs rfl (by exact HO1.out.alloc _) _ 7 7 (headB k d) rfl (by exact row_lit _ _ _ _ _ _ rfl rfl HH.out HC.out) (by omega) ?_)
  intro v2 w2 h2 g2 n2
  have HZ2 : w2.cell? ⟨w.heap.size, 1, none⟩ = some (.slice ao n cap) := by
    have hh : w2.heap[w.heap.size]? = some (.cells #[.int .u8 k, .slice ao n cap] 85 (0, 0)) := by
      rw [g2.block w.heap.size (by simp; omega) (fun e => by have := HVB.out _ e.symm; omega), Below.heap_alloc _ _ _ (by omega)]
      exact (HB1.out.block w.heap.size (by omega)).trans HNEW.out
    exact cell_of_block hh 1
  have HR2 := Lib.hid (((HR.out.kept HB1.out).alloc _).grown g2 (fun a ha hn => HS.out a ha hn))
  have H2 := Lib.hid h2
  have G2 := Lib.hid g2
  have N2 := Lib.hid n2
  obtain ⟨av2, cv2, rfl⟩ := own_slice h2
  clear h2 g2 n2 z0 z1
  go_wp2_with (at_builtin; refine wpList_append_bytes rfl _ _ rfl _ _ (xs ++ headB k d) rfl (by exact H2.out) _ n cap d rfl (by exact HR2.out) (by omega) ?_)
  intro v3 w3 h3 g3 n3
  obtain ⟨av3, cv3, rfl⟩ := own_slice h3
  have H3 := Lib.hid h3
  have G3 := Lib.hid g3
  have N3 := Lib.hid n3
  clear h3 g3 n3
  go_wp2
  go_ret
  have hl : (xs ++ partB k d).length = xs.length + 7 + n := by rw [List.length_append, partB_length, HLEN.out]; omega
  have hbn : Below w.heap.size w (w1.alloc (.cells #[Value.int .u8 ((crcN k d : Nat) / 16777216 : Int), .int .u8 ((crcN k d : Nat) / 65536 % 256 : Int), .int .u8 ((crcN k d : Nat) / 256 % 256 : Int), .int .u8 ((crcN k d : Nat) % 256 : Int), .int .u8 ((n : Int) / 256), .int .u8 ((n : Int) % 256), .int .u8 k] 5)) :=
    (below_next HBW.out HB1.out).trans ((below_alloc w1 _).mono (by omega))
  have hn2 : (Value.slice av2 (xs.length + 7) cv2).ownBlock = (Value.slice av xs.length cv).ownBlock ∨ ∃ b, (Value.slice av2 (xs.length + 7) cv2).ownBlock = some b ∧ w.heap.size ≤ b := by
    rcases N2.out with h | ⟨b, h1, h2⟩
    · exact .inl h
    · exact .inr ⟨b, h1, by omega⟩
  have hs2 := G2.out.size
  refine ⟨_, rfl, ?_, grown_two (grown_two (grown_any hbn _) G2.out (.inl rfl)) G3.out hn2, ?_⟩
  · have e : xs ++ partB k d = xs ++ (headB k d ++ d) := rfl
    rw [hl, e]; exact H3.out
  · rcases N3.out with h | ⟨b, h1, h2⟩
    · rcases hn2 with h' | ⟨b, h1, h2⟩
      · exact .inl (h.trans h')
      · exact .inr ⟨b, h.trans h1, h2⟩
    · exact .inr ⟨b, h1, by rw [World.size_alloc] at hs2; omega⟩
end Go.Proofs.Ytkmanpmaflpgoaa
