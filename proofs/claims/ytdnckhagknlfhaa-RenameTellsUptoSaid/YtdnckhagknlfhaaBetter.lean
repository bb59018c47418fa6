/-
  collatorref08.Better: is a pair better than another one? Nothing that was there is changed.
-/
import Derived.Test.YtdnckhagknlfhaaOnce
namespace Go.Proofs.Ytdnckhagknlfhaa
open Go.RowKit

instance (a b : Pr) : Decidable (btr a b) := by unfold btr; infer_instance
theorem plt_iff (a b : ByteArray) : plt a b ↔ pcmp (td a) (td b) = -1 := by
  show pcmp (td a) (td b) < 0 ↔ _
  rcases pcmp_val (td a) (td b) with e | e | e <;> omega

set_option maxHeartbeats 4000000 in
set_option maxRecDepth 100000 in
theorem better20_any (a b : Pr) (w : World) (h1 : a.fr.size ≤ 1048576) (h2 : b.fr.size ≤ 1048576) (h3 : a.tt.size ≤ 1048576) (h4 : b.tt.size ≤ 1048576) :
    Calls Try.prog 20 #[.agg #[.string a.fr, .string a.tt, .int .i64 a.sc], .agg #[.string b.fr, .string b.tt, .int .i64 b.sc]] w fun e w' => e = .returned (.bool (decide (btr a b))) ∧ Below w.heap.size w w' := by
  obtain ⟨af, at_, sa⟩ := a
  obtain ⟨bf, bt, sb⟩ := b
  simp only at h1 h2 h3 h4 ⊢
  by_cases e1 : sa = sb
  · subst e1
    by_cases e2 : af = bf
    · subst e2
      have f2 : (af.toList == af.toList) = true := by simp
      have HB : Hid (decide (btr ⟨af, at_, sa⟩ ⟨af, bt, sa⟩) = decide (pcmp (td at_) (td bt) < 0)) := Lib.hid (by
        apply decide_eq_decide.2
        unfold btr
        simp only [Int.lt_irrefl, true_and, false_or]
        constructor
        · rintro (h | h)
          · exact absurd h (plt_irrefl _)
          · exact h
        · intro h; exact .inr h)
      go_enter Try.func20, Try.ntmps20
      go_wp2_with fail
      refine (compare_exact at_ bt _ h3 h4).mono ?_
      rintro e w' ⟨rfl, hb⟩
      go_wp2_with fail
      go_ret
      exact ⟨ret_bool HB.out.symm, (((Below.refl _ _).alloc (Nat.le_refl _) _).alloc (by simp) _).trans (hb.mono (by simp; omega))⟩
    · have f2 := text_ne e2
      have HB : Hid (decide (btr ⟨af, at_, sa⟩ ⟨bf, bt, sa⟩) = decide (pcmp (td af) (td bf) < 0)) := Lib.hid (by
        apply decide_eq_decide.2
        unfold btr
        simp only [Int.lt_irrefl, true_and, false_or]
        constructor
        · rintro (h | ⟨h, _⟩)
          · exact h
          · exact absurd h e2
        · intro h; exact .inl h)
      clear e2
      go_enter Try.func20, Try.ntmps20
      go_wp2_with fail
      refine (compare_exact af bf _ h1 h2).mono ?_
      rintro e w' ⟨rfl, hb⟩
      go_wp2_with fail
      go_ret
      exact ⟨ret_bool HB.out.symm, (((Below.refl _ _).alloc (Nat.le_refl _) _).alloc (by simp) _).trans (hb.mono (by simp; omega))⟩
  · have f1 : ((sa : Int) == sb) = false := by rw [beq_eq_false_iff_ne]; exact e1
    have HB : Hid (decide (btr ⟨af, at_, sa⟩ ⟨bf, bt, sb⟩) = decide (sb < sa)) := Lib.hid (by
      apply decide_eq_decide.2
      unfold btr
      simp only
      constructor
      · rintro (h | ⟨h, _⟩)
        · exact h
        · exact absurd h e1
      · intro h; exact .inl h)
    clear e1
    go_enter Try.func20, Try.ntmps20
    go_wp2_with fail
    go_ret
    exact ⟨ret_bool HB.out.symm, ((Below.refl _ _).alloc (Nat.le_refl _) _).alloc (by simp) _⟩
end Go.Proofs.Ytdnckhagknlfhaa
