/-
  The functions by which files and candidates are sorted: the function literal of files, cmp.Or at three numbers, and betterFirst.
-/
import Derived.Test.YtdnckhagknlfhaaOrd
import Derived.Test.YtdnckhagknlfhaaBlk
import Derived.Deep.RegionHeld3
import Derived.Sort.Grow
namespace Go.Proofs.Ytdnckhagknlfhaa
open Go.RowKit Go.Sort

/-- a file, as it lies in memory: its path, its lines, and where they are -/
structure FM where
  path : ByteArray
  fits : path.size ≤ maxLen
  A : Option Addr
  lines : List ByteArray
  c : Nat
instance : Inhabited FM := ⟨⟨⟨#[]⟩, by decide, none, [], 0⟩⟩
def FM.cells (x : FM) : List Value := [.string x.path, .slice x.A x.lines.length x.c]
/-- a candidate: the places of its files, and its score -/
structure CM where
  o : Int
  f : Int
  s : Int
deriving DecidableEq
instance : Inhabited CM := ⟨⟨0, 0, 0⟩⟩
def CM.cells (x : CM) : List Value := [.int .i64 x.o, .int .i64 x.f, .int .i64 x.s]

set_option maxHeartbeats 1000000 in
theorem closure_any (x y : FM) (W : World) :
    Calls Try.prog 42 #[.agg x.cells.toArray, .agg y.cells.toArray] W fun e w' => e = .returned (.int .i64 (pcmp x.path.data.toList y.path.data.toList)) ∧ ∃ q os', w' = grow (W.drewN q) os' := by
  have hcon := fun W' => compare_any x.path y.path W' x.fits y.fits
  generalize pcmp x.path.data.toList y.path.data.toList = r at hcon ⊢
  unfold FM.cells
  generalize x.path = p at *
  generalize y.path = q at *
  have HC := Lib.hid hcon
  clear hcon
  go_enter Try.func42, Try.ntmps42
  go_wp2_with (go_at_call 43; refine (HC.out _).mono ?_; rintro e w' ⟨rfl, n, rfl⟩)
  go_ret
  exact ⟨rfl, n, _, by rw [alloc_eq_grow, alloc_eq_grow, grow_grow]; rfl⟩

/-- the first one that is not 0 -/
def orL : List Int → Int
  | [] => 0
  | z :: zs => if z = 0 then orL zs else z
set_option maxHeartbeats 1000000 in
theorem or_any (a : Addr) (zs : List Int) (c : Nat) (w : World) (ha : Ints w w.heap.size (some a) zs) (h1 : zs.length ≤ 65536) :
    Calls Try.prog 44 #[.slice (some a) zs.length c] w fun e w' => e = .returned (.int .i64 (orL zs)) ∧ w = w' := by
  obtain ⟨r, hr⟩ : ∃ r, r = orL zs := ⟨_, rfl⟩
  have HR := Lib.hid hr
  rw [← hr]
  clear hr
  go_enter Try.func44, Try.ntmps44
  go_wp2_with fail
  go_loop [8] (fun i => ∃ k : Nat, k ≤ zs.length ∧ i = .int .i64 k ∧ orL (zs.drop k) = r) (fun i => zs.length - (intOf i).toNat)
  case atStart => exact ⟨0, Nat.zero_le _, rfl, HR.out.symm⟩
  case round =>
    obtain ⟨k, hk, rfl, ho⟩ := hrel
    by_cases g1 : k < zs.length
    · obtain ⟨a', e', _, hca⟩ := ha.at_ g1
      injection e' with e'
      subst e'
      rw [List.drop_eq_getElem_cons g1] at ho
      generalize zs[k] = z at *
      unfold orL at ho
      by_cases hz : z = 0
      · subst hz
        rw [if_pos rfl] at ho
        have HO := Lib.hid ho
        clear ho
        go_wp2_with fail
        go_round
        case rel => exact ⟨k + 1, by omega, by go_num, HO.out⟩
        case measure => simp [intOf]; omega
      · rw [if_neg hz] at ho
        have HO := Lib.hid ho
        have hz1 : (z == 0) = false := by simp [hz]
        have hz2 : (z != 0) = true := by simp [hz]
        clear ho hz
        go_wp2_with fail
        go_ret
        exact ⟨ret_int HO.out, rfl⟩
    · rw [List.drop_eq_nil_of_le (by omega)] at ho
      have HO := Lib.hid ho
      clear ho
      go_wp2_with fail
      go_ret
      exact ⟨ret_int HO.out, rfl⟩

theorem or3 (W : World) (x y z : Int) :
    Calls Try.prog 44 #[.slice (some ⟨W.heap.size, 0, none⟩) 3 3] (W.alloc (.cells #[.int .i64 x, .int .i64 y, .int .i64 z] 3)).drew fun e w' => e = .returned (.int .i64 (orL [x, y, z])) ∧ (W.alloc (.cells #[.int .i64 x, .int .i64 y, .int .i64 z] 3)).drew = w' := by
  have h := ints_new W [x, y, z]
  have h' : Ints (W.alloc (.cells #[.int .i64 x, .int .i64 y, .int .i64 z] 3)).drew (W.alloc (.cells #[.int .i64 x, .int .i64 y, .int .i64 z] 3)).drew.heap.size (some ⟨W.heap.size, 0, none⟩) [x, y, z] := by simpa using h.drew
  exact or_any ⟨W.heap.size, 0, none⟩ [x, y, z] 3 _ h' (by simp)
/-- which one of two candidates stands first -/
def ccmp (x y : CM) : Int := orL [cmpI y.s x.s, cmpI x.o y.o, cmpI x.f y.f]

set_option maxHeartbeats 2000000 in
set_option maxRecDepth 100000 in
theorem better_any (x y : CM) (W : World) :
    Calls Try.prog 24 #[.agg x.cells.toArray, .agg y.cells.toArray] W fun e w' => e = .returned (.int .i64 (ccmp x y)) ∧ ∃ q os', w' = grow (W.drewN q) os' := by
  obtain ⟨xo, xf, xs⟩ := x
  obtain ⟨yo, yf, ys⟩ := y
  unfold ccmp CM.cells
  simp only
  go_enter Try.func24, Try.ntmps24
  go_wp2_with fail
  obtain ⟨W2, hW2⟩ : ∃ W2, W2 = (W.alloc (.cells #[.int .i64 xo, .int .i64 xf, .int .i64 xs] 80)).alloc (.cells #[.int .i64 yo, .int .i64 yf, .int .i64 ys] 80) := ⟨_, rfl⟩
  obtain ⟨g, hg⟩ : ∃ g, g = W.heap.size := ⟨_, rfl⟩
  have bx : Blk W2 g 80 #[.int .i64 xo, .int .i64 xf, .int .i64 xs] := by rw [hW2, hg]; exact (Blk.new _ _ _).alloc _
  have by_ : Blk W2 (g + 1) 80 #[.int .i64 yo, .int .i64 yf, .int .i64 ys] := by
    rw [hW2, hg]
    have := Blk.new (W.alloc (.cells #[.int .i64 xo, .int .i64 xf, .int .i64 xs] 80)) 80 #[.int .i64 yo, .int .i64 yf, .int .i64 ys]
    simpa using this
  rw [← hW2, ← hg]
  have hgz : W2.heap.size = g + 2 := by rw [hW2, hg]; simp
  have HW : Hid (∀ n os, ∃ os', grow (W2.drewN n) os = grow (W.drewN n) os') := Lib.hid (fun n os => ⟨#[.cells #[.int .i64 xo, .int .i64 xf, .int .i64 xs] 80, .cells #[.int .i64 yo, .int .i64 yf, .int .i64 ys] 80] ++ os, by rw [hW2, alloc_eq_grow, alloc_eq_grow, grow_grow]; exact grow_grow (W.drewN n) _ _⟩)
  have x0 : W2.cell? ⟨g, 0, none⟩ = some (.int .i64 xo) := bx.cell 0
  have x1 : W2.cell? ⟨g, 1, none⟩ = some (.int .i64 xf) := bx.cell 1
  have x2 : W2.cell? ⟨g, 2, none⟩ = some (.int .i64 xs) := bx.cell 2
  have y0 : W2.cell? ⟨g + 1, 0, none⟩ = some (.int .i64 yo) := by_.cell 0
  have y1 : W2.cell? ⟨g + 1, 1, none⟩ = some (.int .i64 yf) := by_.cell 1
  have y2 : W2.cell? ⟨g + 1, 2, none⟩ = some (.int .i64 ys) := by_.cell 2
  have n0 := World.new_ne W2 _ x0
  have n1 := World.new_ne W2 _ y0
  clear bx by_ hW2 hg hgz
  go_region_held3 (fun w' => w'.cell? ⟨g, 0, none⟩ = some (.int .i64 xo) ∧ w'.cell? ⟨g, 1, none⟩ = some (.int .i64 xf) ∧ w'.cell? ⟨g, 2, none⟩ = some (.int .i64 xs) ∧ w'.cell? ⟨g + 1, 0, none⟩ = some (.int .i64 yo) ∧ w'.cell? ⟨g + 1, 1, none⟩ = some (.int .i64 yf) ∧ w'.cell? ⟨g + 1, 2, none⟩ = some (.int .i64 ys)) (go_keep)
    (first | (go_at_call 45; refine (cmpCompare_any _ _ _).mono ?_; rintro e w' ⟨rfl, rfl⟩) | (go_at_call 44; refine (or3 W2 _ _ _).mono ?_; rintro e w' ⟨rfl, rfl⟩))
  all_goals
    go_wp2_with fail
    go_ret
    refine ⟨rfl, ?_⟩
    obtain ⟨os', ho⟩ := HW.out 1 #[.cells #[.int .i64 (cmpI ys xs), .int .i64 (cmpI xo yo), .int .i64 (cmpI xf yf)] 3]
    exact ⟨1, os', by rw [← ho, alloc_eq_grow]; rfl⟩

end Go.Proofs.Ytdnckhagknlfhaa
