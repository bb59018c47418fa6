/-
  collatorref01.split: a new list of texts, none longer than the text. Nothing that was there is changed.
-/
import Derived.Test.YtdnckhagknlfhaaRefA
namespace Go.Proofs.Ytdnckhagknlfhaa
open Go.RowKit

/-- v is a list of texts X that was made behind w0; nothing that was there in w0 is changed -/
def Own (w0 w : World) (v : Value) (X : List ByteArray) : Prop := w.ownsRow w0.heap.size 9 1 v X.length (X.map .string) ∧ Below w0.heap.size w0 w
theorem Own.nil (w : World) : Own w w (.slice none 0 0) [] := ⟨World.ownsRow_nil _ _ _ _, Below.refl _ _⟩
theorem Own.up {w0 w w' : World} {v : Value} {L : List ByteArray} (h : Own w0 w v L) (hb : Below w.heap.size w w') : Own w0 w' v L :=
  ⟨World.ownsRow.kept h.1 (grown_of_below hb none) (by cases v.ownBlock <;> simp), h.2.trans (hb.mono h.2.size)⟩
theorem Own.push {w0 W : World} {v : Value} {L : List ByteArray} (h : Own w0 W v L) (s : ByteArray) (l : Nat) (hl : L.length + 1 = l) (hL : l ≤ 4194304) :
    ∃ A' c' W', (Builtin.append_ #[39, 39] 39 #[v, .slice (some ⟨W.heap.size, 0, none⟩) 1 1]).run Try.prog (W.alloc (.cells #[.string s] 9)) = .ok (.slice A' l c') W' ∧ Own w0 W' (.slice A' l c') (L ++ [s]) := by
  subst hl
  obtain ⟨i0, hi, hz0, hz1, hz2⟩ := info_parts info9
  have hal : Below W.heap.size W (W.alloc (.cells #[.string s] 9)) := (Below.refl _ _).alloc (Nat.le_refl _) _
  have h2 := h.up hal
  have hnew := Blk.new W 9 #[.string s]
  obtain ⟨v', W', hrun, hown, hg, _, _⟩ := run_append_own_at (P := Try.prog) (W.alloc (.cells #[.string s] 9)) w0.heap.size 39 39 9 i0 _ 1 16 Try.underlying39 hi hz0 hz1 hz2 rfl (by decide) v L.length (L.map .string) h2.1
    ⟨W.heap.size, 0, none⟩ 1 1 [.string s] rfl (by
      intro j u hu
      rw [add_zero_block, hnew.cell j]
      simpa using hu) (by simp [Value.oneCell']) (by unfold maxLen; omega) (by omega) h2.2.size
  obtain ⟨A', c', rfl⟩ := own_slice hown
  refine ⟨A', c', W', hrun, ?_, h2.2.grown hg h2.2.size (fun k hk => (h2.1.lt k hk).1)⟩
  rw [List.map_append, List.length_append]
  simpa using hown

/-- how long texts are together, each with one byte more -/
def lens (X : List ByteArray) : Nat := (X.map fun x => x.size + 1).sum
theorem lens_snoc (X : List ByteArray) (x : ByteArray) : lens (X ++ [x]) = lens X + (x.size + 1) := by simp [lens]
/-- texts that are not long, nor together -/
def Short (m : Nat) (X : List ByteArray) : Prop := (∀ x ∈ X, x.size ≤ m) ∧ lens X ≤ m + 1
/-- a new list of texts that are not long -/
def PartsTold (m : Nat) (w : World) (e : Ending) (w' : World) : Prop :=
  ∃ A c X, e = .returned (.slice A X.length c) ∧ Strs w' w'.heap.size A X ∧ X.length ≤ m + 1 ∧ Short m X ∧ Below w.heap.size w w'
/-- what the loop has made -/
def SplIn (s : ByteArray) (w : World) (v : Value) (k l : Nat) (wr : World) : Prop := ∃ X, Own w wr v X ∧ X.length ≤ k ∧ (∀ x ∈ X, x.size ≤ s.size) ∧ lens X ≤ l

set_option maxHeartbeats 4000000 in
set_option maxRecDepth 100000 in
theorem split_any (s : ByteArray) (w : World) (hs : s.size ≤ 60000) : Calls Try.prog 38 #[.string s] w (PartsTold s.size w) := by
  go_enter Try.func38, Try.ntmps38
  go_wp2_with fail
  go_loopw [3, 4, 5] (fun v f i wr => ∃ k l : Nat, k ≤ s.size ∧ l ≤ k ∧ i = .int .i64 k ∧ f = .int .i64 l ∧ SplIn s w v k l wr) (fun _ _ i _ => s.size - (intOf i).toNat)
  case atStart => exact ⟨0, 0, Nat.zero_le _, Nat.le_refl _, rfl, rfl, [], Own.nil w, Nat.le_refl _, fun x hx => (by cases hx), Nat.le_refl _⟩
  case round =>
    obtain ⟨k, l, hk, hl, rfl, rfl, hT⟩ := hrel
    have HT := Lib.hid hT
    clear hT
    by_cases g1 : k < s.size
    · cases hz : (((s[k].toNat : Int) == 47) : Bool) with
      | false =>
        go_wp2_with fail
        go_roundw
        case rel => exact ⟨k + 1, l, by omega, by omega, by go_num, rfl, by
          obtain ⟨X, h1, h2, h3, h4⟩ := HT.out
          exact ⟨X, h1, by omega, h3, h4⟩⟩
        case measure => simp [intOf]; omega
      | true =>
        obtain ⟨X, h1, h2, h3, h4⟩ := HT.out
        have hxs : (s.extract l k).size ≤ s.size := by simp; omega
        have hxl : (s.extract l k).size = k - l := by simp; omega
        obtain ⟨N, hN⟩ : ∃ N, X.length + 1 = N := ⟨_, rfl⟩
        obtain ⟨A7, c7, W7, hrun7, hO7⟩ := h1.push (s.extract l k) N hN (by omega)
        have HR7 := Lib.hid hrun7
        have HO7 : Hid (SplIn s w (.slice A7 N c7) (k + 1) (k + 1) W7) := Lib.hid ⟨X ++ [s.extract l k], hO7, by rw [List.length_append]; simp; omega, fun y hy => by
          rcases List.mem_append.1 hy with h | h
          · exact h3 y h
          · have : y = s.extract l k := by simpa using h
            rw [this]; exact hxs, by rw [lens_snoc, hxl]; omega⟩
        clear hrun7 hO7 h1 h2 h3 h4 hN hxs hxl
        go_wp2_with (at_builtin; refine wpList_append_run rfl rfl (by simp [Region.wanted]) rfl rfl HR7.out ?_)
        go_roundw
        case rel => exact ⟨k + 1, k + 1, by omega, by omega, by go_num, by go_num, HO7.out⟩
        case measure => simp [intOf]; omega
    · obtain ⟨X, h1, h2, h3, h4⟩ := HT.out
      have hxs : (s.extract l s.size).size ≤ s.size := by simp
      have hxl : (s.extract l s.size).size = s.size - l := by simp
      obtain ⟨N, hN⟩ : ∃ N, X.length + 1 = N := ⟨_, rfl⟩
      obtain ⟨A7, c7, W7, hrun7, hO7⟩ := h1.push (s.extract l s.size) N hN (by omega)
      have HR7 := Lib.hid hrun7
      have HO7 : Hid (PartsTold s.size w (.returned (.slice A7 N c7)) W7) := Lib.hid ⟨A7, c7, X ++ [s.extract l s.size], by rw [List.length_append, List.length_singleton, hN], Strs.of_own (by rw [List.length_append, List.length_singleton, hN]; have := hO7.1; rw [List.length_append, List.length_singleton, hN] at this; exact this), by rw [List.length_append]; simp; omega, ⟨fun y hy => by
        rcases List.mem_append.1 hy with h | h
        · exact h3 y h
        · have : y = s.extract l s.size := by simpa using h
          rw [this]; exact hxs, by rw [lens_snoc, hxl]; omega⟩, hO7.2⟩
      clear hrun7 hO7 h1 h2 h3 h4 hN hxs hxl
      go_wp2_with (at_builtin; refine wpList_append_run rfl rfl (by simp [Region.wanted]) rfl rfl HR7.out ?_)
      go_ret
      exact HO7.out

end Go.Proofs.Ytdnckhagknlfhaa
