/-
  collatorref04.Same: of two scripts that are the same it returns true. Nothing that was there is changed.
-/
import Derived.Test.YtmonemgjgcfhlaaScr
namespace Go.Proofs.Ytmonemgjgcfhlaa
open Go.RowKit

theorem Eds.at_ {w : World} {B : Nat} {A : Option Addr} {es : List Edt} (h : Eds w B A es) {k : Nat} {e : Edt} (hk : es[k]? = some e) :
    ∃ a, A = some a ∧ w.cell? (a.add (k * 3)) = some (.int .i64 e.op) ∧ w.cell? (a.add (k * 3 + 1)) = some (.int .i64 (e.n : Nat)) ∧ ∃ Al c, w.cell? (a.add (k * 3 + 2)) = some (.slice Al e.lines.length c) ∧ Strs w B Al e.lines := by
  obtain ⟨a, e1, _, hc⟩ := h (by intro e; subst e; simp at hk)
  obtain ⟨c1, c2, Al, c, c3, hs⟩ := hc k e hk
  exact ⟨a, e1, c1, c2, Al, c, c3, hs⟩
theorem field_at (a : Addr) (n i : Nat) (hi : i ≠ 0) : (⟨(a.add n).block, (a.add n).off + i, none⟩ : Addr) = a.add (n + i) := by
  rw [← add_twice]
  conv => rhs; unfold Addr.add
  rw [if_neg hi]
  rfl
/-- nothing but draws -/
def Drew (w w' : World) : Prop := ∃ n, w' = w.drewN n
theorem Drew.refl (w : World) : Drew w w := ⟨0, rfl⟩
theorem Drew.more {w w' : World} (h : Drew w w') (n : Nat) : Drew w (w'.drewN n) := by
  obtain ⟨m, rfl⟩ := h
  exact ⟨m + n, by rw [World.drewN_drewN]⟩
theorem Drew.eds {w w' : World} (h : Drew w w') {H : Nat} {A : Option Addr} {es : List Edt} (hs : Eds w H A es) : Eds w' H A es := by
  obtain ⟨n, rfl⟩ := h
  exact hs
theorem Drew.below {w w' : World} (h : Drew w w') : Below w.heap.size w w' := by
  obtain ⟨n, rfl⟩ := h
  exact below_drewN (Below.refl _ _) n

set_option maxHeartbeats 2000000 in
set_option maxRecDepth 100000 in
theorem same_true (A B : Option Addr) (es : List Edt) (c d H : Nat) (w : World) (ha : Eds w H A es) (hb : Eds w H B es) (h1 : es.length ≤ 65536) (h2 : ∀ e ∈ es, e.lines.length ≤ 65536) :
    Calls Try.prog 12 #[.slice A es.length c, .slice B es.length d] w fun e w' => e = .returned (.bool true) ∧ Below w.heap.size w w' := by
  have H2 := Lib.hid h2
  clear h2
  go_enter Try.func12, Try.ntmps12
  go_wp2_with fail
  go_loopw [5] (fun i wr => ∃ k : Nat, k ≤ es.length ∧ i = .int .i64 k ∧ Drew w wr) (fun i _ => es.length - (intOf i).toNat)
  case atStart => exact ⟨0, Nat.zero_le _, rfl, Drew.refl w⟩
  case round =>
    obtain ⟨k, hk, rfl, hD⟩ := hrel
    by_cases g1 : k < es.length
    · obtain ⟨e, he⟩ : ∃ e, es[k]? = some e := ⟨_, List.getElem?_eq_getElem g1⟩
      obtain ⟨a, rfl, c1, c2, Al, ca, c3, hs⟩ := (hD.eds ha).at_ he
      obtain ⟨b, rfl, d1, d2, Bl, cb, d3, ht⟩ := (hD.eds hb).at_ he
      have hel := H2.out e (List.mem_of_getElem? he)
      clear he
      rw [← field_at a (k * 3) 1 (by decide)] at c2
      rw [← field_at a (k * 3) 2 (by decide)] at c3
      rw [← field_at b (k * 3) 1 (by decide)] at d2
      rw [← field_at b (k * 3) 2 (by decide)] at d3
      have HS := Lib.hid hs
      have HT := Lib.hid ht
      clear hs ht
      go_wp2_with fail
      go_quiet (fail)
      go_wp2_with fail
      go_loopw [6] (fun i wx => ∃ l : Nat, l ≤ e.lines.length ∧ i = .int .i64 l ∧ Drew wr wx) (fun i _ => e.lines.length - (intOf i).toNat)
      case atStart => exact ⟨0, Nat.zero_le _, rfl, (Drew.refl _).more nq⟩
      case round =>
        obtain ⟨l, hl, rfl, n, rfl⟩ := hrel
        by_cases g2 : l < e.lines.length
        · obtain ⟨x, hx⟩ : ∃ x, x = e.lines[l] := ⟨_, rfl⟩
          obtain ⟨aa, rfl, _, hxa⟩ := HS.out.at_ g2
          obtain ⟨bb, rfl, _, hxb⟩ := HT.out.at_ g2
          rw [← hx] at hxa hxb
          clear hx
          go_wp2_with fail
          go_quiet (fail)
          go_wp2_with fail
          go_roundw
          case rel => exact ⟨l + 1, by omega, by go_num, n + nq, rfl⟩
          case measure => simp [intOf]; omega
        · go_wp2_with fail
          go_roundw
          case rel => exact ⟨k + 1, by omega, by go_num, hD.more n⟩
          case measure => simp [intOf]; omega
    · go_wp2_with fail
      go_ret
      exact ⟨rfl, hD.below⟩

end Go.Proofs.Ytmonemgjgcfhlaa
