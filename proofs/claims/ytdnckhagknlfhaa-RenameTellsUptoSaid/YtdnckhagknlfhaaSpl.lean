/-
  Plain mathematics: the parts of a text, compared one by one, tell what the text tells with the slash ahead of every other byte. No walk.
-/
import Derived.Test.YtdnckhagknlfhaaOrd
namespace Go.Proofs.Ytdnckhagknlfhaa

/-- the parts of a text -/
def spl : List UInt8 → List (List UInt8)
  | [] => [[]]
  | c :: l => if c = 47 then [] :: spl l else match spl l with
    | p :: ps => (c :: p) :: ps
    | [] => [[c]]
theorem spl_ne : ∀ l, spl l ≠ []
  | [] => by simp [spl]
  | c :: l => by
    rw [spl]
    split
    · simp
    · split <;> simp
theorem spl_cons (l : List UInt8) : ∃ p ps, spl l = p :: ps := by
  cases h : spl l with
  | nil => exact absurd h (spl_ne l)
  | cons p ps => exact ⟨p, ps, rfl⟩
theorem spl_byte {c : UInt8} {l p : List UInt8} {ps : List (List UInt8)} (hc : c ≠ 47) (h : spl l = p :: ps) : spl (c :: l) = (c :: p) :: ps := by rw [spl, if_neg hc, h]
theorem spl_slash (l : List UInt8) : spl (47 :: l) = [] :: spl l := by rw [spl, if_pos rfl]
theorem spl_upto : ∀ {p : List UInt8} (r : List UInt8), (∀ c ∈ p, c ≠ 47) → spl (p ++ 47 :: r) = p :: spl r
  | [], r, _ => spl_slash r
  | c :: p, r, h => spl_byte (h c (by simp)) (spl_upto r fun d hd => h d (by simp [hd]))
theorem spl_last : ∀ {p : List UInt8}, (∀ c ∈ p, c ≠ 47) → spl p = [p]
  | [], _ => rfl
  | c :: p, h => spl_byte (h c (by simp)) (spl_last fun d hd => h d (by simp [hd]))
/-- which one of two parts is less -/
def lcmp : List UInt8 → List UInt8 → Int
  | [], [] => 0
  | [], _ :: _ => -1
  | _ :: _, [] => 1
  | a :: s, b :: t => if a = b then lcmp s t else cmpI (a.toNat : Int) (b.toNat : Int)
def pcs : List (List UInt8) → List (List UInt8) → Int
  | [], [] => 0
  | [], _ :: _ => -1
  | _ :: _, [] => 1
  | x :: X, y :: Y => if x = y then pcs X Y else lcmp x y
theorem pcs_spl : ∀ s t, pcs (spl s) (spl t) = pcmp s t
  | [], [] => rfl
  | [], b :: t => by
    obtain ⟨q, qs, hq⟩ := spl_cons t
    by_cases hb : b = 47
    · subst hb
      rw [spl_slash, hq]; rfl
    · rw [spl_byte hb hq]; rfl
  | a :: s, [] => by
    obtain ⟨p, ps, hp⟩ := spl_cons s
    by_cases ha : a = 47
    · subst ha
      rw [spl_slash, hp]; rfl
    · rw [spl_byte ha hp]; rfl
  | a :: s, b :: t => by
    obtain ⟨p, ps, hp⟩ := spl_cons s
    obtain ⟨q, qs, hq⟩ := spl_cons t
    have ih := pcs_spl s t
    by_cases hab : a = b
    · subst hab
      rw [pcmp, if_pos rfl, ← ih]
      by_cases ha : a = 47
      · subst ha
        rw [spl_slash, spl_slash, pcs, if_pos rfl]
      · rw [spl_byte ha hp, spl_byte ha hq, hp, hq, pcs, pcs]
        by_cases hpq : p = q
        · rw [if_pos (by rw [hpq]), if_pos hpq]
        · rw [if_neg (fun e => hpq (by injection e)), if_neg hpq, lcmp, if_pos rfl]
    · rw [pcmp, if_neg hab]
      by_cases ha : a = 47
      · subst ha
        have hb : b ≠ 47 := fun e => hab e.symm
        rw [spl_slash, spl_byte hb hq, pcs, if_neg (by simp), lcmp]
        have : rk 47 < rk b := by unfold rk; rw [if_pos rfl, if_neg hb]; omega
        unfold cmpI
        rw [if_pos this]
      · by_cases hb : b = 47
        · subst hb
          rw [spl_slash, spl_byte ha hp, pcs, if_neg (by simp), lcmp]
          have : rk 47 < rk a := by unfold rk; rw [if_pos rfl, if_neg ha]; omega
          unfold cmpI
          rw [if_neg (by omega), if_pos this]
        · rw [spl_byte ha hp, spl_byte hb hq, pcs, if_neg (fun e => hab (by injection e)), lcmp, if_neg hab]
          unfold rk
          rw [if_neg ha, if_neg hb]

end Go.Proofs.Ytdnckhagknlfhaa
