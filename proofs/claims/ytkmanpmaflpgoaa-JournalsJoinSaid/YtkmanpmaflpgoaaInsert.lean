/-
  WHAT IS PROVED: contracts: slices.Insert of one entry, slices.Delete of one entry, slices.Clone, at directories.
-/
import Derived.Test.YtkmanpmaflpgoaaRowN
import Derived.RegionTactic
namespace Go.Proofs.Ytkmanpmaflpgoaa
open Go.RowKit Go.Lib

/-- what is handed back: entries, in the place of the elder ones or in new memory -/
def Rowed (base : Nat) (vn : Value) (n : Nat) (xs : List Value) (w : World) (e : Ending) (w' : World) : Prop :=
  ∃ v', e = .returned v' ∧ w'.ownsRow base 72 2 v' n xs ∧ w.grownBy w' vn.ownBlock ∧ (v'.ownBlock = vn.ownBlock ∨ ∃ b, v'.ownBlock = some b ∧ w.heap.size ≤ b)

theorem u25 : Try.prog.underlying 26 = some (.slice 72) := by kernel_rfl
theorem u26 : Try.prog.underlying 27 = some (.slice 72) := by kernel_rfl

theorem two_cells {w : World} {vb : Nat} {nm : ByteArray} {p : Value} (hb : w.heap[vb]? = some (.cells #[.string nm, p] 72 (0, 0))) : ∀ j u, ([.string nm, p] : List Value)[j]? = some u → w.cell? ((⟨vb, 0, none⟩ : Addr).add j) = some u := by
  intro j u hj
  rw [Addr.add_lit, Nat.zero_add, cell_of_block hb]
  simpa using hj

set_option maxRecDepth 100000 in
set_option maxHeartbeats 4000000 in
/-- at the end -/
theorem insert_end (base : Nat) (vn : Value) (n : Nat) (xs : List Value) (nm : ByteArray) (p : Value) (vb : Nat) (w : World) (hown : w.ownsRow base 72 2 vn n xs) (hl : n ≤ 1000)
    (hb : w.heap[vb]? = some (.cells #[.string nm, p] 72 (0, 0))) (hp : p.oneCell' = true) (hbase : base ≤ w.heap.size) :
    Calls Try.prog 51 #[vn, .int .i64 n, .slice (some ⟨vb, 0, none⟩) 1 1] w (Rowed base vn (n + 1) (xs ++ [.string nm, p]) w) := by
  have hsl : ∃ ao cap, vn = .slice ao n cap ∧ n ≤ cap ∧ (ao = none → cap = 0) ∧ (∀ a, ao = some a → ∃ g, a = ⟨g, 0, none⟩) := by
    rcases hown.2 with ⟨rfl, hn⟩ | ⟨g, cap, cur, rfl, _, _, hc, _⟩
    · exact ⟨_, _, by rw [hn], by omega, fun _ => rfl, fun a ha => by simp at ha⟩
    · exact ⟨_, _, rfl, hc, fun h => by simp at h, fun a ha => ⟨g, by simpa using ha.symm⟩⟩
  have HO := Lib.hid hown
  have HC := Lib.hid (two_cells hb)
  obtain ⟨ao, cap, rfl, hnc, hnil, hg⟩ := hsl
  have h1 : ∀ u ∈ ([.string nm, p] : List Value), u.oneCell' = true := by
    intro u hu; simp at hu; rcases hu with rfl | rfl
    · rfl
    · exact hp
  clear hown hb
  have H1 := Lib.hid h1
  clear h1
  cases ao with
  | none =>
    obtain rfl : cap = 0 := hnil rfl
    obtain rfl : n = 0 := by omega
    clear hnil hg
    go_enter Try.func51, Try.ntmps51
    go_wp2_with (at_builtin; refine wpList_append_ents rfl _ _ _ _ rfl u26 u25 base _ _ _ rfl HO.out (some ⟨vb, 0, none⟩) 1 1 [.string nm, p] rfl rfl (fun h => by simp at h) (fun ad had => by obtain rfl := Option.some.inj had; exact HC.out) H1.out (by omega) hbase ?_)
    intro v' w' h2 h3 h4
    go_wp2
    go_ret
    exact ⟨v', rfl, by simpa using h2, h3, h4⟩
  | some a =>
    obtain ⟨g, rfl⟩ := hg a rfl
    clear hnil hg
    by_cases hcap : cap = n
    · subst hcap
      go_enter Try.func51, Try.ntmps51
      go_wp2_with (at_builtin; refine wpList_append_ents rfl _ _ _ _ rfl u26 u25 base _ _ _ rfl HO.out (some ⟨vb, 0, none⟩) 1 1 [.string nm, p] rfl rfl (fun h => by simp at h) (fun ad had => by obtain rfl := Option.some.inj had; exact HC.out) H1.out (by omega) hbase ?_)
      intro v' w' h2 h3 h4
      go_wp2
      go_ret
      exact ⟨v', rfl, by simpa using h2, h3, h4⟩
    · go_enter Try.func51, Try.ntmps51
      go_wp2_with (at_builtin; refine wpList_append_ents rfl _ _ _ _ rfl u26 u25 base _ _ _ rfl HO.out (some ⟨vb, 0, none⟩) 1 1 [.string nm, p] rfl rfl (fun h => by simp at h) (fun ad had => by obtain rfl := Option.some.inj had; exact HC.out) H1.out (by omega) hbase ?_)
      intro v' w' h2 h3 h4
      go_wp2
      go_ret
      exact ⟨v', rfl, by simpa using h2, h3, h4⟩
end Go.Proofs.Ytkmanpmaflpgoaa
