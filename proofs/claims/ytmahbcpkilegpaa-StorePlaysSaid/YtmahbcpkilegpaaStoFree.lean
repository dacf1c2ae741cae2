/-
  Free: the capacity less the sum of the files' lengths, in whatever order the map is gone through.
-/
import Derived.Test.YtmahbcpkilegpaaStoName
namespace Go.Proofs.Ytmahbcpkilegpaa
open Go.RowKit Go.Maps St

/-- The lengths of those files that are no longer to come. -/
def part (left : Lit → Bool) : List F → Nat
  | [] => 0
  | f :: r => (if left (.string f.nm) then 0 else f.zs.length) + part left r
theorem part_le (left : Lit → Bool) : ∀ l : List F, part left l ≤ total l
  | [] => Nat.le_refl _
  | f :: r => by have := part_le left r; rw [part, total]; split <;> omega
theorem part_start {left : Lit → Bool} : ∀ {l : List F}, (∀ f ∈ l, left (.string f.nm) = true) → part left l = 0
  | [], _ => rfl
  | f :: r, h => by rw [part, h f (by simp), part_start fun g hg => h g (by simp [hg])]; rfl
theorem part_end {left : Lit → Bool} (h : ∀ kl, left kl = false) : ∀ l : List F, part left l = total l
  | [] => rfl
  | f :: r => by rw [part, h, part_end h r, total]; simp
theorem part_same {left left' : Lit → Bool} : ∀ {l : List F}, (∀ f ∈ l, left' (.string f.nm) = left (.string f.nm)) → part left' l = part left l
  | [], _ => rfl
  | f :: r, h => by rw [part, part, h f (by simp), part_same fun g hg => h g (by simp [hg])]
theorem part_step {left : Lit → Bool} : ∀ {l : List F}, Sorted l → ∀ {f : F}, f ∈ l → left (.string f.nm) = true → part (fun z => left z && !z.sameKey (.string f.nm)) l = part left l + f.zs.length
  | [], _, _, h, _ => by simp at h
  | a :: r, hs, f, h, hl => by
    rw [part, part]
    rcases List.mem_cons.1 h with rfl | h
    · have e : part (fun z => left z && !z.sameKey (.string f.nm)) r = part left r := part_same fun g hg => by
        have : (g.nm == f.nm) = false := by have := (before_ne (hs.head g hg)).symm; simpa using this
        show (left (.string g.nm) && !(g.nm == f.nm)) = left (.string g.nm)
        rw [this]; simp
      rw [e]
      simp [hl, same_str]; omega
    · have e := part_step hs.tail h hl
      have hn : (a.nm == f.nm) = false := by have := (before_ne (hs.head f h)); simpa using this
      rw [e]
      simp only [same_str, hn]
      simp; omega
theorem free_elt {E : F → Value} {l : List F} {x : List UInt8} {c : Value} {y : DataW Value × List MemPlace} (hv : hld c = some y) (hat : ∀ zd, (dat E l).atKey (.string x) zd = y.1) : ∃ f ∈ l, f.nm = x ∧ c = E f := by
  obtain rfl : y = (.held c, []) := by simp [hld] at hv; exact hv.symm
  cases hf : find x l with
  | none =>
    have h1 := hat (.held (.bool true))
    have h2 := hat (.held (.bool false))
    rw [dat_at, hf] at h1 h2
    simp at h1 h2
    rw [← h1] at h2
    cases h2
  | some f =>
    have h1 := hat (.held (.bool true))
    rw [dat_at, hf] at h1
    simp at h1
    exact ⟨f, (find_some hf).1, (find_some hf).2, h1.symm⟩
set_option maxHeartbeats 2000000 in
theorem free_any (T : Nat) (own : Nat → Prop) (s : S) (w : World) (h : PState w T own s) :
    Calls Try.prog 19 #[.pointer (some ⟨T, 0, none⟩)] w fun e w' => e = .returned (.int .i64 ((s.room : Int) - (total s.fs : Nat))) ∧ Below w.heap.size w w' := by
  obtain ⟨Ad, m, ka, kc, p⟩ := h
  obtain ⟨⟨c0, c1, _, _, _⟩, _⟩ := obj5 p.obj
  have hsort := Lib.hid p.inv.sorted
  have htot := Lib.hid p.inv.tot
  have hroom := Lib.hid p.inv.room
  have HM := Lib.hid p.map
  clear p
  go_enter Try.func19, Try.ntmps19
  go_wp2_with (first | (at_range; refine wpList_range_own _ rfl _ 59 rfl 9 64 key_law Try.underlying59 hld m _ _ rfl HM.out ?_; intro w0 hrg0 hg0 hs0) | go_in)
  go_frame
  have N0 : Hid (part (has (dat (elt Ad) s.fs)) s.fs = 0) := Lib.hid (part_start fun f hf => by rw [dat_has, find_mem hsort.out hf]; rfl)
  have HR := Lib.hid hrg0
  have HG := Lib.hid hg0
  clear hrg0 hg0 hs0
  have ML := HM.out.lt
  have HML := Lib.hid ML
  clear ML
  go_loopw [3, 5] (fun v _ wr => ∃ (left : Lit → Bool) (cnt : Nat), wr.ranges Try.prog 9 hld m w.heap.size s.fs.length (dat (elt Ad) s.fs) left cnt ∧ v = .int .i64 ((s.room : Int) - (part left s.fs : Nat)) ∧ Below w.heap.size w wr) (fun _ _ wr => wr.rangeLeft m w.heap.size)
  case atStart => exact ⟨_, _, HR.out, by rw [N0.out]; simp, (Below.refl _ _).grown HG.out (Nat.le_refl _) (fun j hj => by cases hj)⟩
  case round =>
    obtain ⟨left, cnt, hrg, rfl, hnx⟩ := hrel
    have RG := Lib.hid hrg
    have NX := Lib.hid hnx
    have P0 := Lib.hid (part_le left s.fs)
    clear hrg hnx
    go_wp2_with (first
      | (at_next; refine wpList_next_ranges _ rfl _ rfl 9 key_law hld Go.Proofs.encStr id (fun key kl hk => by obtain ⟨x, hx, _⟩ := Maps.keyOf_str Try.underlying9 hk; exact ⟨x, hx⟩) (fun v y _ => ⟨v, rfl⟩) m w.heap.size _ _ _ _ rfl RG.out ?_ ?_)
      | go_in)
    · intro hc0 hl0
      have E := Lib.hid (part_end hl0 s.fs)
      clear hc0 hl0
      go_wp2
      go_ret
      exact ⟨ret_int (by rw [E.out]), NX.out⟩
    · intro x c kl yd yp w2 cnt2 hkey hlk hv hat hrg2 hlt hg2 hs2 hen
      obtain ⟨x', ex, rfl, _⟩ := Maps.keyOf_str Try.underlying9 hkey
      obtain rfl : x = x' := encStr_inj ex
      obtain ⟨f, hf, rfl, hcf⟩ := free_elt hv hat
      have hcf : c = elt Ad f := hcf
      subst hcf
      have PS1 := part_step hsort.out hf hlk
      have PL := part_le (fun z => left z && !z.sameKey (.string f.nm)) s.fs
      have R2 := Lib.hid hrg2
      have LT := Lib.hid hlt
      have G2 := Lib.hid hg2
      have ht := htot.out
      have hr := hroom.out
      have B1 : Hid ((part left s.fs : Nat) + (f.zs.length : Nat) ≤ s.room) := Lib.hid (by omega)
      have PS2 := Lib.hid PS1
      have w1 : 0 ≤ (s.room : Int) - (part left s.fs : Nat) - (f.zs.length : Int) := by have := B1.out; omega
      have w2' : (s.room : Int) - (part left s.fs : Nat) - (f.zs.length : Int) ≤ 16777216 := by omega
      clear hkey hlk hv hat hrg2 hlt hg2 hs2 PS1 PL ht hr ex
      unfold elt at hen
      go_wp2
      go_roundw
      case rel => exact ⟨_, cnt2, R2.out.alloc _, by rw [PS2.out]; congr 1; omega, (NX.out.grown G2.out NX.out.size (fun j hj => by cases hj; exact Nat.le_refl _)).alloc (Nat.le_trans NX.out.size G2.out.size) _⟩
      case measure => rw [(R2.out.alloc _).left_eq, RG.out.left_eq]; exact LT.out
end Go.Proofs.Ytmahbcpkilegpaa
