/-
  Part 28 of the texts behind the law: EvKnownP, EvKnown, EvIn.
-/
import Derived.Test.YtighnooklcmjaaaDoorEv27
import Derived.Test.YtighnooklcmjaaaDoorEv13
/-
  The law EventKnown's events and bytes, in plain words.
-/
namespace Go.Proofs.YtighnooklcmjaaaDoor
open Go.RowKit
def badL : List Ev.E := [⟨0, 0, 0, 0, 0, ⟨#[]⟩, ⟨#[]⟩, ⟨#[]⟩⟩, ⟨10, 0, 0, 0, 0, ⟨#[]⟩, ⟨#[]⟩, ⟨#[]⟩⟩, ⟨6, 0, 0, 0, 0, ⟨#[]⟩, ⟨#[]⟩, ⟨#[]⟩⟩, ⟨6, 0, 0, 0, 1099511627777, ⟨#[]⟩, ⟨#[]⟩, ⟨#[]⟩⟩, ⟨6, 1, 0, 0, 1, ⟨#[]⟩, ⟨#[]⟩, ⟨#[]⟩⟩, ⟨9, 0, 0, 0, 1048576, ⟨#[]⟩, ⟨#[]⟩, ⟨#[]⟩⟩, ⟨3, 1, 0, 0, 0, ⟨#[]⟩, ⟨#[]⟩, ⟨#[]⟩⟩, ⟨3, 65, 0, 1, 0, ⟨#[]⟩, ⟨#[]⟩, ⟨#[]⟩⟩, ⟨3, 1, 16, 1, 0, ⟨#[]⟩, ⟨#[]⟩, ⟨#[]⟩⟩, ⟨3, 1, 0, 10, 0, ⟨#[]⟩, ⟨#[]⟩, ⟨#[]⟩⟩, ⟨1, 0, 0, 0, 0, ⟨#[65]⟩, ⟨#[]⟩, ⟨#[]⟩⟩, ⟨2, 1, 0, 0, 0, ⟨#[97]⟩, ⟨#[49, 50, 51, 52, 53, 54, 55, 56, 57, 48, 49, 50, 51, 52, 53, 54, 55]⟩, ⟨#[]⟩⟩, ⟨2, 1, 0, 0, 0, ⟨#[97]⟩, ⟨#[]⟩, ⟨#[120]⟩⟩, ⟨8, 0, 0, 0, 0, ⟨#[]⟩, ⟨#[]⟩, ⟨#[]⟩⟩, ⟨5, 1, 0, 1, 0, ⟨#[]⟩, ⟨#[]⟩, ⟨#[120]⟩⟩]
theorem badL_good (i : Nat) (hi : i < 15) : Ev.good (badL.getD i Ev.zero) = false := by
  have h : ∀ i : Fin 15, Ev.good (badL.getD i.val Ev.zero) = false := by decide
  exact h ⟨i, hi⟩
theorem badL_in (i : Nat) (hi : i < 15) : EvIn (badL.getD i Ev.zero) := by
  have h : ∀ i : Fin 15, (0 ≤ (badL.getD i.val Ev.zero).kind ∧ (badL.getD i.val Ev.zero).kind ≤ 100) ∧ (0 ≤ (badL.getD i.val Ev.zero).run ∧ (badL.getD i.val Ev.zero).run ≤ 100) ∧ (0 ≤ (badL.getD i.val Ev.zero).task ∧ (badL.getD i.val Ev.zero).task ≤ 100) ∧ (0 ≤ (badL.getD i.val Ev.zero).try_ ∧ (badL.getD i.val Ev.zero).try_ ≤ 100) ∧ (0 ≤ (badL.getD i.val Ev.zero).n ∧ (badL.getD i.val Ev.zero).n ≤ 4398046511104) ∧ (badL.getD i.val Ev.zero).name.size ≤ 1000 ∧ (badL.getD i.val Ev.zero).key.size ≤ 1000 ∧ (badL.getD i.val Ev.zero).data.size ≤ 1000 := by decide
  obtain ⟨h1, h2, h3, h4, h5, h6, h7, h8⟩ := h ⟨i, hi⟩
  exact EvIn.small h1 h2 h3 h4 h5 h6 h7 h8
/-- The row of events at block g. -/
def BadAt (W : World) (g : Nat) : Prop := ∀ i, i < 15 → ∃ k r t y n na ke da, (W.cell? ⟨g, i * 8, none⟩ = some (.int .i64 k) ∧ W.cell? ⟨g, i * 8 + 1, none⟩ = some (.int .i64 r) ∧ W.cell? ⟨g, i * 8 + 2, none⟩ = some (.int .i64 t) ∧ W.cell? ⟨g, i * 8 + 3, none⟩ = some (.int .i64 y) ∧
  W.cell? ⟨g, i * 8 + 4, none⟩ = some (.int .i64 n) ∧ W.cell? ⟨g, i * 8 + 5, none⟩ = some (.string na) ∧ W.cell? ⟨g, i * 8 + 6, none⟩ = some (.string ke) ∧ W.cell? ⟨g, i * 8 + 7, none⟩ = some (.string da)) ∧ Hid (EvIn ⟨k, r, t, y, n, na, ke, da⟩) ∧ Hid (Ev.good ⟨k, r, t, y, n, na, ke, da⟩ = false)
set_option maxRecDepth 20000 in
theorem BadAt.of {W : World} {g : Nat} {T : TypeId} (h : W.heap[g]? = some (.cells #[.int .i64 0, .int .i64 0, .int .i64 0, .int .i64 0, .int .i64 0, .string ⟨#[]⟩, .string ⟨#[]⟩, .string ⟨#[]⟩, .int .i64 10, .int .i64 0, .int .i64 0, .int .i64 0, .int .i64 0, .string ⟨#[]⟩, .string ⟨#[]⟩, .string ⟨#[]⟩, .int .i64 6, .int .i64 0, .int .i64 0, .int .i64 0, .int .i64 0, .string ⟨#[]⟩, .string ⟨#[]⟩, .string ⟨#[]⟩, .int .i64 6, .int .i64 0, .int .i64 0, .int .i64 0, .int .i64 1099511627777, .string ⟨#[]⟩, .string ⟨#[]⟩, .string ⟨#[]⟩, .int .i64 6, .int .i64 1, .int .i64 0, .int .i64 0, .int .i64 1, .string ⟨#[]⟩, .string ⟨#[]⟩, .string ⟨#[]⟩, .int .i64 9, .int .i64 0, .int .i64 0, .int .i64 0, .int .i64 1048576, .string ⟨#[]⟩, .string ⟨#[]⟩, .string ⟨#[]⟩, .int .i64 3, .int .i64 1, .int .i64 0, .int .i64 0, .int .i64 0, .string ⟨#[]⟩, .string ⟨#[]⟩, .string ⟨#[]⟩, .int .i64 3, .int .i64 65, .int .i64 0, .int .i64 1, .int .i64 0, .string ⟨#[]⟩, .string ⟨#[]⟩, .string ⟨#[]⟩, .int .i64 3, .int .i64 1, .int .i64 16, .int .i64 1, .int .i64 0, .string ⟨#[]⟩, .string ⟨#[]⟩, .string ⟨#[]⟩, .int .i64 3, .int .i64 1, .int .i64 0, .int .i64 10, .int .i64 0, .string ⟨#[]⟩, .string ⟨#[]⟩, .string ⟨#[]⟩, .int .i64 1, .int .i64 0, .int .i64 0, .int .i64 0, .int .i64 0, .string ⟨#[65]⟩, .string ⟨#[]⟩, .string ⟨#[]⟩, .int .i64 2, .int .i64 1, .int .i64 0, .int .i64 0, .int .i64 0, .string ⟨#[97]⟩, .string ⟨#[49, 50, 51, 52, 53, 54, 55, 56, 57, 48, 49, 50, 51, 52, 53, 54, 55]⟩, .string ⟨#[]⟩, .int .i64 2, .int .i64 1, .int .i64 0, .int .i64 0, .int .i64 0, .string ⟨#[97]⟩, .string ⟨#[]⟩, .string ⟨#[120]⟩, .int .i64 8, .int .i64 0, .int .i64 0, .int .i64 0, .int .i64 0, .string ⟨#[]⟩, .string ⟨#[]⟩, .string ⟨#[]⟩, .int .i64 5, .int .i64 1, .int .i64 0, .int .i64 1, .int .i64 0, .string ⟨#[]⟩, .string ⟨#[]⟩, .string ⟨#[120]⟩] T (0, 0))) : BadAt W g := fun i hi => by
  have h1 := badL_in i hi
  have h2 := badL_good i hi
  match i, hi with
  | 0, _ => exact ⟨_, _, _, _, _, _, _, _, ⟨(obcell h _).trans rfl, (obcell h _).trans rfl, (obcell h _).trans rfl, (obcell h _).trans rfl, (obcell h _).trans rfl, (obcell h _).trans rfl, (obcell h _).trans rfl, (obcell h _).trans rfl⟩, Lib.hid h1, Lib.hid h2⟩
  | 1, _ => exact ⟨_, _, _, _, _, _, _, _, ⟨(obcell h _).trans rfl, (obcell h _).trans rfl, (obcell h _).trans rfl, (obcell h _).trans rfl, (obcell h _).trans rfl, (obcell h _).trans rfl, (obcell h _).trans rfl, (obcell h _).trans rfl⟩, Lib.hid h1, Lib.hid h2⟩
  | 2, _ => exact ⟨_, _, _, _, _, _, _, _, ⟨(obcell h _).trans rfl, (obcell h _).trans rfl, (obcell h _).trans rfl, (obcell h _).trans rfl, (obcell h _).trans rfl, (obcell h _).trans rfl, (obcell h _).trans rfl, (obcell h _).trans rfl⟩, Lib.hid h1, Lib.hid h2⟩
  | 3, _ => exact ⟨_, _, _, _, _, _, _, _, ⟨(obcell h _).trans rfl, (obcell h _).trans rfl, (obcell h _).trans rfl, (obcell h _).trans rfl, (obcell h _).trans rfl, (obcell h _).trans rfl, (obcell h _).trans rfl, (obcell h _).trans rfl⟩, Lib.hid h1, Lib.hid h2⟩
  | 4, _ => exact ⟨_, _, _, _, _, _, _, _, ⟨(obcell h _).trans rfl, (obcell h _).trans rfl, (obcell h _).trans rfl, (obcell h _).trans rfl, (obcell h _).trans rfl, (obcell h _).trans rfl, (obcell h _).trans rfl, (obcell h _).trans rfl⟩, Lib.hid h1, Lib.hid h2⟩
  | 5, _ => exact ⟨_, _, _, _, _, _, _, _, ⟨(obcell h _).trans rfl, (obcell h _).trans rfl, (obcell h _).trans rfl, (obcell h _).trans rfl, (obcell h _).trans rfl, (obcell h _).trans rfl, (obcell h _).trans rfl, (obcell h _).trans rfl⟩, Lib.hid h1, Lib.hid h2⟩
  | 6, _ => exact ⟨_, _, _, _, _, _, _, _, ⟨(obcell h _).trans rfl, (obcell h _).trans rfl, (obcell h _).trans rfl, (obcell h _).trans rfl, (obcell h _).trans rfl, (obcell h _).trans rfl, (obcell h _).trans rfl, (obcell h _).trans rfl⟩, Lib.hid h1, Lib.hid h2⟩
  | 7, _ => exact ⟨_, _, _, _, _, _, _, _, ⟨(obcell h _).trans rfl, (obcell h _).trans rfl, (obcell h _).trans rfl, (obcell h _).trans rfl, (obcell h _).trans rfl, (obcell h _).trans rfl, (obcell h _).trans rfl, (obcell h _).trans rfl⟩, Lib.hid h1, Lib.hid h2⟩
  | 8, _ => exact ⟨_, _, _, _, _, _, _, _, ⟨(obcell h _).trans rfl, (obcell h _).trans rfl, (obcell h _).trans rfl, (obcell h _).trans rfl, (obcell h _).trans rfl, (obcell h _).trans rfl, (obcell h _).trans rfl, (obcell h _).trans rfl⟩, Lib.hid h1, Lib.hid h2⟩
  | 9, _ => exact ⟨_, _, _, _, _, _, _, _, ⟨(obcell h _).trans rfl, (obcell h _).trans rfl, (obcell h _).trans rfl, (obcell h _).trans rfl, (obcell h _).trans rfl, (obcell h _).trans rfl, (obcell h _).trans rfl, (obcell h _).trans rfl⟩, Lib.hid h1, Lib.hid h2⟩
  | 10, _ => exact ⟨_, _, _, _, _, _, _, _, ⟨(obcell h _).trans rfl, (obcell h _).trans rfl, (obcell h _).trans rfl, (obcell h _).trans rfl, (obcell h _).trans rfl, (obcell h _).trans rfl, (obcell h _).trans rfl, (obcell h _).trans rfl⟩, Lib.hid h1, Lib.hid h2⟩
  | 11, _ => exact ⟨_, _, _, _, _, _, _, _, ⟨(obcell h _).trans rfl, (obcell h _).trans rfl, (obcell h _).trans rfl, (obcell h _).trans rfl, (obcell h _).trans rfl, (obcell h _).trans rfl, (obcell h _).trans rfl, (obcell h _).trans rfl⟩, Lib.hid h1, Lib.hid h2⟩
  | 12, _ => exact ⟨_, _, _, _, _, _, _, _, ⟨(obcell h _).trans rfl, (obcell h _).trans rfl, (obcell h _).trans rfl, (obcell h _).trans rfl, (obcell h _).trans rfl, (obcell h _).trans rfl, (obcell h _).trans rfl, (obcell h _).trans rfl⟩, Lib.hid h1, Lib.hid h2⟩
  | 13, _ => exact ⟨_, _, _, _, _, _, _, _, ⟨(obcell h _).trans rfl, (obcell h _).trans rfl, (obcell h _).trans rfl, (obcell h _).trans rfl, (obcell h _).trans rfl, (obcell h _).trans rfl, (obcell h _).trans rfl, (obcell h _).trans rfl⟩, Lib.hid h1, Lib.hid h2⟩
  | 14, _ => exact ⟨_, _, _, _, _, _, _, _, ⟨(obcell h _).trans rfl, (obcell h _).trans rfl, (obcell h _).trans rfl, (obcell h _).trans rfl, (obcell h _).trans rfl, (obcell h _).trans rfl, (obcell h _).trans rfl, (obcell h _).trans rfl⟩, Lib.hid h1, Lib.hid h2⟩
theorem BadAt.below {W W' : World} {g : Nat} (h : BadAt W g) (hg : g < W.heap.size) (hb : Below W.heap.size W W') : BadAt W' g := fun i hi => by
  obtain ⟨k, r, t, y, n, na, ke, da, ⟨c0, c1, c2, c3, c4, c5, c6, c7⟩, h1, h2⟩ := h i hi
  have kk : ∀ o, W'.cell? ⟨g, o, none⟩ = W.cell? ⟨g, o, none⟩ := fun o => hb.cell (p := ⟨g, o, none⟩) hg
  exact ⟨k, r, t, y, n, na, ke, da, ⟨(kk _).trans c0, (kk _).trans c1, (kk _).trans c2, (kk _).trans c3, (kk _).trans c4, (kk _).trans c5, (kk _).trans c6, (kk _).trans c7⟩, h1, h2⟩
theorem st_in : EvIn ⟨2, 1, 0, 0, 0, ⟨#[97]⟩, ⟨#[]⟩, ⟨#[]⟩⟩ := EvIn.small (by decide) (by decide) (by decide) (by decide) (by decide) (by decide) (by decide) (by decide)
theorem dn_in : EvIn ⟨4, 64, 15, 9, 0, ⟨#[]⟩, ⟨#[]⟩, ⟨#[111, 107, 59]⟩⟩ := EvIn.small (by decide) (by decide) (by decide) (by decide) (by decide) (by decide) (by decide) (by decide)
theorem st_good : Ev.good ⟨2, 1, 0, 0, 0, ⟨#[97]⟩, ⟨#[]⟩, ⟨#[]⟩⟩ = true := by decide
theorem dn_good : Ev.good ⟨4, 64, 15, 9, 0, ⟨#[]⟩, ⟨#[]⟩, ⟨#[111, 107, 59]⟩⟩ = true := by decide
theorem dn_put : Ev.put ⟨4, 64, 15, 9, 0, ⟨#[]⟩, ⟨#[]⟩, ⟨#[111, 107, 59]⟩⟩ = [4, 64, 15, 9, 3, 111, 107, 59] := by
  unfold Ev.put
  rw [if_pos dn_good]
  have h4 := En.leb_small 4 (by decide) (by decide)
  have h64 := En.leb_small 64 (by decide) (by decide)
  have h15 := En.leb_small 15 (by decide) (by decide)
  have h9 := En.leb_small 9 (by decide) (by decide)
  have h3 := En.leb_small 3 (by decide) (by decide)
  have hs : En.putS ⟨#[111, 107, 59]⟩ = [3, 111, 107, 59] := by
    unfold En.putS
    rw [show ((⟨#[111, 107, 59]⟩ : ByteArray).size : Int) = 3 from rfl, h3]
    rfl
  simp [Ev.bytes, Ev.codes, Ev.field, h4, h64, h15, h9, hs]
theorem dn_show : Ev.showV ⟨4, 64, 15, 9, 0, ⟨#[]⟩, ⟨#[]⟩, ⟨#[111, 107, 59]⟩⟩ = [100, 111, 110, 101, 32, 54, 52, 32, 49, 53, 32, 57, 32, 111, 107, 59] := by
  unfold Ev.showV
  rw [if_pos dn_good]
  have d1 : Lib.decDigits 64 = [54, 52] := by rw [Nu.dec_big (by decide), Nu.dec_small (by decide)]; rfl
  have d2 : Lib.decDigits 15 = [49, 53] := by rw [Nu.dec_big (by decide), Nu.dec_small (by decide)]; rfl
  have d3 : Lib.decDigits 9 = [57] := Nu.dec_small (by decide)
  simp [Ev.text, Ev.word, Ev.codes, Ev.fieldT, d1, d2, d3]
theorem st_show : Ev.showV ⟨2, 1, 0, 0, 0, ⟨#[97]⟩, ⟨#[]⟩, ⟨#[]⟩⟩ = [115, 116, 97, 114, 116, 32, 49, 32, 97, 32] := by
  unfold Ev.showV
  rw [if_pos st_good]
  have d1 : Lib.decDigits 1 = [49] := Nu.dec_small (by decide)
  simp [Ev.text, Ev.word, Ev.codes, Ev.fieldT, d1]
theorem bad_show {e : Ev.E} (h : Ev.good e = false) : Nu.txt (Ev.showV e) = ⟨#[]⟩ := by unfold Ev.showV; rw [h]; rfl
theorem bad_put {e : Ev.E} (h : Ev.good e = false) : Ev.put e = [] := by unfold Ev.put; rw [h]; rfl
theorem get1 : Ev.getE [4, 64, 15, 9, 3, 111, 107, 59, 0] = 2 := by decide +kernel
theorem get2 : Ev.getE [] = 2 := by decide +kernel
theorem get3 : Ev.getE [8, 129, 0] = 2 := by decide +kernel
theorem get4 : Ev.getE [8, 65] = 2 := by decide +kernel
end Go.Proofs.YtighnooklcmjaaaDoor
/-
  The law EventKnown, walked: what chapter 15 says of each kind's fields.
-/
namespace Go.Proofs.YtighnooklcmjaaaDoor
open Go.RowKit
/-- The two events and the bytes of the second, while the law goes on. -/
structure KN (w wr : World) (gs gd : Nat) (A : Option Addr) (cap : Nat) : Prop where
  b : Below w.heap.size w wr
  s : wr.heap[gs]? = some (.cells #[.int .i64 2, .int .i64 1, .int .i64 0, .int .i64 0, .int .i64 0, .string ⟨#[97]⟩, .string ⟨#[]⟩, .string ⟨#[]⟩] 24 (0, 0))
  d : wr.heap[gd]? = some (.cells #[.int .i64 4, .int .i64 64, .int .i64 15, .int .i64 9, .int .i64 0, .string ⟨#[]⟩, .string ⟨#[]⟩, .string ⟨#[111, 107, 59]⟩] 24 (0, 0))
  o : OwnB wr w.heap.size A cap [4, 64, 15, 9, 3, 111, 107, 59]
theorem KN.more {w wr w' : World} {gs gd cap : Nat} {A : Option Addr} (h : KN w wr gs gd A cap) (hb : Below wr.heap.size wr w') : KN w w' gs gd A cap :=
  ⟨h.b.trans (hb.mono h.b.size), (hb.block _ (lt_of_block h.s)).trans h.s, (hb.block _ (lt_of_block h.d)).trans h.d, h.o.grew hb (Nat.le_refl _)⟩
set_option maxRecDepth 100000 in
set_option maxHeartbeats 16000000 in
theorem known_walk (w : World) (hF : FactsE w) : Calls Tryd.prog 3 #[] w fun r w' => r = .returned (.bool true) ∧ Below w.heap.size w w' := by
  have FF : Hid (∀ W, Below w.heap.size w W → FactsE W) := Lib.hid fun W h => hF.on h
  clear hF
  have AW := Lib.hid awake_any
  have GD : Hid (∀ k r t y n na ke da, EvIn ⟨k, r, t, y, n, na, ke, da⟩ → Ev.good ⟨k, r, t, y, n, na, ke, da⟩ = false → ∀ W, FactsE W → Calls Tryd.prog 8 #[.agg #[.int .i64 k, .int .i64 r, .int .i64 t, .int .i64 y, .int .i64 n, .string na, .string ke, .string da]] W fun x w' => x = .returned (.bool false) ∧ Below W.heap.size W w') := Lib.hid fun k r t y n na ke da h1 h2 W hW => by
    have := good_p _ h1 W hW.s
    rw [h2] at this
    exact this
  have PD : Hid (∀ k r t y n na ke da, EvIn ⟨k, r, t, y, n, na, ke, da⟩ → Ev.good ⟨k, r, t, y, n, na, ke, da⟩ = false → ∀ W, FactsE W → Calls Tryd.prog 9 #[.agg #[.int .i64 k, .int .i64 r, .int .i64 t, .int .i64 y, .int .i64 n, .string na, .string ke, .string da]] W (BytesP W [])) := Lib.hid fun k r t y n na ke da h1 h2 W hW => by
    have := put_p _ h1 W hW.s
    rw [bad_put h2] at this
    exact this
  have SD : Hid (∀ k r t y n na ke da, EvIn ⟨k, r, t, y, n, na, ke, da⟩ → Ev.good ⟨k, r, t, y, n, na, ke, da⟩ = false → ∀ W, FactsE W → Calls Tryd.prog 10 #[.agg #[.int .i64 k, .int .i64 r, .int .i64 t, .int .i64 y, .int .i64 n, .string na, .string ke, .string da]] W fun x w' => x = .returned (.string ⟨#[]⟩) ∧ Below W.heap.size W w') := Lib.hid fun k r t y n na ke da h1 h2 W hW => (show_p _ h1 W hW).mono fun _ _ ⟨s, e1, e2, e3⟩ => ⟨by rw [e1, e2.out, bad_show h2], e3.out⟩
  have PN : Hid (∀ W, FactsE W → Calls Tryd.prog 9 #[.agg #[.int .i64 4, .int .i64 64, .int .i64 15, .int .i64 9, .int .i64 0, .string ⟨#[]⟩, .string ⟨#[]⟩, .string ⟨#[111, 107, 59]⟩]] W (BytesP W [4, 64, 15, 9, 3, 111, 107, 59])) := Lib.hid fun W hW => by
    have := put_p _ dn_in W hW.s
    rw [dn_put] at this
    exact this
  have SS : Hid (∀ W, FactsE W → Calls Tryd.prog 10 #[.agg #[.int .i64 2, .int .i64 1, .int .i64 0, .int .i64 0, .int .i64 0, .string ⟨#[97]⟩, .string ⟨#[]⟩, .string ⟨#[]⟩]] W fun x w' => x = .returned (.string ⟨#[115, 116, 97, 114, 116, 32, 49, 32, 97, 32]⟩) ∧ Below W.heap.size W w') := Lib.hid fun W hW => (show_p _ st_in W hW).mono fun _ _ ⟨s, e1, e2, e3⟩ => ⟨by rw [e1, e2.out, st_show]; rfl, e3.out⟩
  have SN : Hid (∀ W, FactsE W → Calls Tryd.prog 10 #[.agg #[.int .i64 4, .int .i64 64, .int .i64 15, .int .i64 9, .int .i64 0, .string ⟨#[]⟩, .string ⟨#[]⟩, .string ⟨#[111, 107, 59]⟩]] W fun x w' => x = .returned (.string ⟨#[100, 111, 110, 101, 32, 54, 52, 32, 49, 53, 32, 57, 32, 111, 107, 59]⟩) ∧ Below W.heap.size W w') := Lib.hid fun W hW => (show_p _ dn_in W hW).mono fun _ _ ⟨s, e1, e2, e3⟩ => ⟨by rw [e1, e2.out, dn_show]; rfl, e3.out⟩
  have GN : Hid (∀ W, FactsE W → Calls Tryd.prog 11 #[.slice none 0 0] W (EvG W [])) := Lib.hid fun W hW => get_p none [] 0 (Nat.le_refl _) (by decide) W hW.s Bytes.nil_
  go_enter Tryd.func3, Tryd.ntmps3
  go_wp2_with fail
  (with_reducible refine (AW.out _ (FF.out _ (Below.refl _ _))).mono ?_); rintro e w1 ⟨rfl, b1⟩
  go_upto_region 4 with fail
  obtain ⟨g, hg⟩ : ∃ g, g = w1.heap.size := ⟨_, rfl⟩
  obtain ⟨WL, hWL⟩ : ∃ WL, WL = w1.alloc (.cells #[.int .i64 0, .int .i64 0, .int .i64 0, .int .i64 0, .int .i64 0, .string ⟨#[]⟩, .string ⟨#[]⟩, .string ⟨#[]⟩, .int .i64 10, .int .i64 0, .int .i64 0, .int .i64 0, .int .i64 0, .string ⟨#[]⟩, .string ⟨#[]⟩, .string ⟨#[]⟩, .int .i64 6, .int .i64 0, .int .i64 0, .int .i64 0, .int .i64 0, .string ⟨#[]⟩, .string ⟨#[]⟩, .string ⟨#[]⟩, .int .i64 6, .int .i64 0, .int .i64 0, .int .i64 0, .int .i64 1099511627777, .string ⟨#[]⟩, .string ⟨#[]⟩, .string ⟨#[]⟩, .int .i64 6, .int .i64 1, .int .i64 0, .int .i64 0, .int .i64 1, .string ⟨#[]⟩, .string ⟨#[]⟩, .string ⟨#[]⟩, .int .i64 9, .int .i64 0, .int .i64 0, .int .i64 0, .int .i64 1048576, .string ⟨#[]⟩, .string ⟨#[]⟩, .string ⟨#[]⟩, .int .i64 3, .int .i64 1, .int .i64 0, .int .i64 0, .int .i64 0, .string ⟨#[]⟩, .string ⟨#[]⟩, .string ⟨#[]⟩, .int .i64 3, .int .i64 65, .int .i64 0, .int .i64 1, .int .i64 0, .string ⟨#[]⟩, .string ⟨#[]⟩, .string ⟨#[]⟩, .int .i64 3, .int .i64 1, .int .i64 16, .int .i64 1, .int .i64 0, .string ⟨#[]⟩, .string ⟨#[]⟩, .string ⟨#[]⟩, .int .i64 3, .int .i64 1, .int .i64 0, .int .i64 10, .int .i64 0, .string ⟨#[]⟩, .string ⟨#[]⟩, .string ⟨#[]⟩, .int .i64 1, .int .i64 0, .int .i64 0, .int .i64 0, .int .i64 0, .string ⟨#[65]⟩, .string ⟨#[]⟩, .string ⟨#[]⟩, .int .i64 2, .int .i64 1, .int .i64 0, .int .i64 0, .int .i64 0, .string ⟨#[97]⟩, .string ⟨#[49, 50, 51, 52, 53, 54, 55, 56, 57, 48, 49, 50, 51, 52, 53, 54, 55]⟩, .string ⟨#[]⟩, .int .i64 2, .int .i64 1, .int .i64 0, .int .i64 0, .int .i64 0, .string ⟨#[97]⟩, .string ⟨#[]⟩, .string ⟨#[120]⟩, .int .i64 8, .int .i64 0, .int .i64 0, .int .i64 0, .int .i64 0, .string ⟨#[]⟩, .string ⟨#[]⟩, .string ⟨#[]⟩, .int .i64 5, .int .i64 1, .int .i64 0, .int .i64 1, .int .i64 0, .string ⟨#[]⟩, .string ⟨#[]⟩, .string ⟨#[120]⟩] 24) := ⟨_, rfl⟩
  have BA : Hid (BadAt WL g) := Lib.hid (by rw [hWL, hg]; exact BadAt.of (heap_alloc_new w1 _))
  have BL : Hid (g < WL.heap.size ∧ Below w.heap.size w WL) := Lib.hid (by rw [hWL, hg]; exact ⟨by simp, b1.alloc b1.size _⟩)
  rw [← hWL, ← hg]
  clear hWL hg b1
  go_wp2_with fail
  go_loopw [2] (fun iv wr => ∃ j : Nat, j ≤ 15 ∧ iv = .int .i64 j ∧ Hid (BadAt wr g) ∧ Hid (g < wr.heap.size ∧ Below w.heap.size w wr)) (fun iv _ => 15 - (intOf iv).toNat)
  case atStart => exact ⟨0, by decide, rfl, BA, BL⟩
  case round =>
    obtain ⟨j, hj, rfl, HA, HB⟩ := hrel
    by_cases hlt : j < 15
    · have hlt' : (j : Int) < 15 := by omega
      obtain ⟨k, r, t, y, n, na, ke, da, ⟨c0, c1, c2, c3, c4, c5, c6, c7⟩, h1, h2⟩ := HA.out j hlt
      go_wp2_with fail
      (with_reducible refine (GD.out _ _ _ _ _ _ _ _ h1.out h2.out _ (FF.out _ HB.out.2)).mono ?_); rintro e w2 ⟨rfl, b2⟩
      have HA2 := Lib.hid (HA.out.below HB.out.1 b2)
      have HB2 : Hid (g < w2.heap.size ∧ Below w.heap.size w w2) := Lib.hid ⟨Nat.lt_of_lt_of_le HB.out.1 b2.size, HB.out.2.trans (b2.mono HB.out.2.size)⟩
      have kk : ∀ o, w2.cell? ⟨g, o, none⟩ = wr.cell? ⟨g, o, none⟩ := fun o => b2.cell (p := ⟨g, o, none⟩) HB.out.1
      have d0 := (kk _).trans c0
      have d1 := (kk _).trans c1
      have d2 := (kk _).trans c2
      have d3 := (kk _).trans c3
      have d4 := (kk _).trans c4
      have d5 := (kk _).trans c5
      have d6 := (kk _).trans c6
      have d7 := (kk _).trans c7
      clear HA HB kk b2 c0 c1 c2 c3 c4 c5 c6 c7
      go_wp2_with fail
      (with_reducible refine (PD.out _ _ _ _ _ _ _ _ h1.out h2.out _ (FF.out _ HB2.out.2)).mono ?_); rintro e w3 ⟨zs, A3, c3, hz, rfl, o3, g3⟩
      obtain rfl : zs = [] := hz.out
      have HA3 := Lib.hid (HA2.out.below HB2.out.1 g3.out.below)
      have HB3 : Hid (g < w3.heap.size ∧ Below w.heap.size w w3) := Lib.hid ⟨Nat.lt_of_lt_of_le HB2.out.1 g3.out.below.size, HB2.out.2.trans (g3.out.below.mono HB2.out.2.size)⟩
      have kk : ∀ o, w3.cell? ⟨g, o, none⟩ = w2.cell? ⟨g, o, none⟩ := fun o => g3.out.below.cell (p := ⟨g, o, none⟩) HB2.out.1
      have c0 := (kk _).trans d0
      have c1 := (kk _).trans d1
      have c2 := (kk _).trans d2
      have c3 := (kk _).trans d3
      have c4 := (kk _).trans d4
      have c5 := (kk _).trans d5
      have c6 := (kk _).trans d6
      have c7 := (kk _).trans d7
      clear HA2 HB2 kk hz o3 g3 d0 d1 d2 d3 d4 d5 d6 d7
      go_wp2_with fail
      (with_reducible refine (SD.out _ _ _ _ _ _ _ _ h1.out h2.out _ (FF.out _ HB3.out.2)).mono ?_); rintro e w4 ⟨rfl, b4⟩
      have HA4 := Lib.hid (HA3.out.below HB3.out.1 b4)
      have HB4 : Hid (g < w4.heap.size ∧ Below w.heap.size w w4) := Lib.hid ⟨Nat.lt_of_lt_of_le HB3.out.1 b4.size, HB3.out.2.trans (b4.mono HB3.out.2.size)⟩
      clear HA3 HB3 b4 c0 c1 c2 c3 c4 c5 c6 c7
      go_wp2
      go_roundw
      case rel => exact ⟨j + 1, by omega, by go_num, HA4, HB4⟩
      case measure => simp [intOf]; omega
    · obtain rfl : j = 15 := by omega
      clear hj hlt HA GD PD SD AW BA BL
      go_upto_region 11 with fail
      obtain ⟨gs, hgs⟩ : ∃ gs, gs = wr.heap.size := ⟨_, rfl⟩
      obtain ⟨gd, hgd⟩ : ∃ gd, gd = wr.heap.size + 1 := ⟨_, rfl⟩
      obtain ⟨W2, hW2⟩ : ∃ W2, W2 = (wr.alloc (.cells #[.int .i64 2, .int .i64 1, .int .i64 0, .int .i64 0, .int .i64 0, .string ⟨#[97]⟩, .string ⟨#[]⟩, .string ⟨#[]⟩] 24)).alloc (.cells #[.int .i64 4, .int .i64 64, .int .i64 15, .int .i64 9, .int .i64 0, .string ⟨#[]⟩, .string ⟨#[]⟩, .string ⟨#[111, 107, 59]⟩] 24) := ⟨_, rfl⟩
      have B2 : Hid (Below w.heap.size w W2) := Lib.hid (by rw [hW2]; exact (HB.out.2.alloc HB.out.2.size _).alloc (by have := HB.out.2.size; simp; omega) _)
      have E2 : Hid (W2.heap[gs]? = some (.cells #[.int .i64 2, .int .i64 1, .int .i64 0, .int .i64 0, .int .i64 0, .string ⟨#[97]⟩, .string ⟨#[]⟩, .string ⟨#[]⟩] 24 (0, 0)) ∧ W2.heap[gd]? = some (.cells #[.int .i64 4, .int .i64 64, .int .i64 15, .int .i64 9, .int .i64 0, .string ⟨#[]⟩, .string ⟨#[]⟩, .string ⟨#[111, 107, 59]⟩] 24 (0, 0))) := Lib.hid (by
        rw [hW2, hgs, hgd]
        exact ⟨by rw [Below.heap_alloc _ _ _ (by simp)]; exact heap_alloc_new wr _, by have := heap_alloc_new (wr.alloc (.cells #[.int .i64 2, .int .i64 1, .int .i64 0, .int .i64 0, .int .i64 0, .string ⟨#[97]⟩, .string ⟨#[]⟩, .string ⟨#[]⟩] 24)) (.cells #[.int .i64 4, .int .i64 64, .int .i64 15, .int .i64 9, .int .i64 0, .string ⟨#[]⟩, .string ⟨#[]⟩, .string ⟨#[111, 107, 59]⟩] 24); rwa [World.size_alloc] at this⟩)
      rw [← hW2, ← hgd, ← hgs]
      clear hW2 hgs hgd HB
      obtain ⟨c0, c1, c2, c3, c4, c5, c6, c7⟩ := ob8 E2.out.2
      go_wp2_with fail
      (with_reducible refine (PN.out _ (FF.out _ B2.out)).mono ?_); rintro e w3 ⟨ys, A3, cap3, hy, rfl, o3, g3⟩
      obtain rfl : ys = [4, 64, 15, 9, 3, 111, 107, 59] := hy.out
      have K3 : Hid (KN w w3 gs gd A3 cap3) := Lib.hid ⟨B2.out.trans (g3.out.below.mono B2.out.size), (g3.out.below.block _ (lt_of_block E2.out.1)).trans E2.out.1, (g3.out.below.block _ (lt_of_block E2.out.2)).trans E2.out.2, o3.out.low B2.out.size⟩
      clear hy o3 g3 B2 E2 c0 c1 c2 c3 c4 c5 c6 c7
      go_upto_region 12 with fail
      have h3 : w.heap.size ≤ w3.heap.size := K3.out.b.size
      go_wp2_with (first
        | (at_builtin; refine wp_app rfl (.tmp 65) (.tmp 66) rfl rfl rfl (OwnB.start w3 w3.heap.size (Nat.le_refl _)) (by simp) rfl rfl (K3.out.o.bytes.below ((Below.refl _ _).alloc (Nat.le_refl _) _)) (by decide) ?_; intro A4 cap4 w4 o4 d4; rw [List.nil_append] at *; have O4 := Lib.hid o4; have D4 : Hid (Grew w3.heap.size w3 w4) := Lib.hid (((Grew.refl _ _).alloc (Nat.le_refl _) _).trans d4); have h4 : w3.heap.size ≤ w4.heap.size := D4.out.below.size; clear o4 d4)
        | (at_builtin; refine wp_app rfl (.tmp 67) (.tmp 68) rfl rfl rfl (O4.out.grew ((Below.refl _ _).alloc (Nat.le_refl _) _) (Nat.le_refl _)) (by simp; omega) rfl rfl (Bytes.new1 w4 0 (by decide) (by decide) _) (by decide) ?_; intro A5 cap5 w5 o5 d5; have O5 := Lib.hid o5; have D5 : Hid (Grew w3.heap.size w3 w5) := Lib.hid (D4.out.trans (((Grew.refl _ _).alloc h4 _).trans d5)); clear o5 d5))
      have K5 := Lib.hid (K3.out.more D5.out.below)
      have G5 : Hid (Calls Tryd.prog 11 #[.slice A5 9 cap5] w5 (EvG w5 [4, 64, 15, 9, 3, 111, 107, 59, 0])) := Lib.hid (get_p A5 [4, 64, 15, 9, 3, 111, 107, 59, 0] cap5 O5.out.cap_ (by decide) w5 (FF.out _ K5.out.b).s O5.out.bytes)
      clear K3 O4 D4 h4 D5 O5 h3
      (try change Calls _ _ #[.slice A5 9 cap5] _ _)
      (with_reducible refine G5.out.mono ?_); rintro e w6 ⟨k6, r6, t6, y6, n6, na6, ke6, da6, er6, rfl, hv, b6⟩
      obtain rfl : er6 = 2 := hv.out.2.trans get1
      have K6 := Lib.hid (K5.out.more b6.out)
      clear K5 hv b6 G5
      go_wp2_with fail
      (with_reducible refine (GN.out _ (FF.out _ (K6.out.more ((Below.refl _ w6).alloc (Nat.le_refl _) _)).b)).mono ?_); rintro e w7 ⟨k7, r7, t7, y7, n7, na7, ke7, da7, er7, rfl, hv, b7⟩
      obtain rfl : er7 = 2 := hv.out.2.trans get2
      have K7 := Lib.hid ((K6.out.more ((Below.refl _ w6).alloc (Nat.le_refl _) _)).more b7.out)
      clear K6 hv b7 GN
      go_upto_region 14 with fail
      obtain ⟨W8, hW8⟩ : ∃ W, W = w7.alloc (.cells #[.int .i64 k7, .int .i64 r7, .int .i64 t7, .int .i64 y7, .int .i64 n7, .string na7, .string ke7, .string da7] 24) := ⟨_, rfl⟩
      have K8 : Hid (KN w W8 gs gd A3 cap3) := Lib.hid (K7.out.more (by rw [hW8]; exact (Below.refl _ _).alloc (Nat.le_refl _) _))
      rw [← hW8]
      clear hW8 K7
      have G8 : Hid (Calls Tryd.prog 11 #[.slice (some ⟨W8.heap.size, 0, none⟩) 3 3] (W8.alloc (.cells #[.int .u8 8, .int .u8 129, .int .u8 0] 5)) (EvG (W8.alloc (.cells #[.int .u8 8, .int .u8 129, .int .u8 0] 5)) [8, 129, 0])) := Lib.hid (get_p (some ⟨W8.heap.size, 0, none⟩) [8, 129, 0] 3 (by decide) (by decide) _ (FF.out _ (K8.out.more ((Below.refl _ W8).alloc (Nat.le_refl _) _)).b).s ((Bytes.new W8 [8, 129, 0] (by decide) (0, 0) _ rfl).more (by simp)))
      go_wp2_with fail
      (with_reducible refine G8.out.mono ?_); rintro e w9 ⟨k9, r9, t9, y9, n9, na9, ke9, da9, er9, rfl, hv, b9⟩
      obtain rfl : er9 = 2 := hv.out.2.trans get3
      have K9 := Lib.hid ((K8.out.more ((Below.refl _ W8).alloc (Nat.le_refl _) _)).more b9.out)
      clear K8 hv b9 G8
      go_upto_region 15 with fail
      obtain ⟨W10, hW10⟩ : ∃ W, W = w9.alloc (.cells #[.int .i64 k9, .int .i64 r9, .int .i64 t9, .int .i64 y9, .int .i64 n9, .string na9, .string ke9, .string da9] 24) := ⟨_, rfl⟩
      have K10 : Hid (KN w W10 gs gd A3 cap3) := Lib.hid (K9.out.more (by rw [hW10]; exact (Below.refl _ _).alloc (Nat.le_refl _) _))
      rw [← hW10]
      clear hW10 K9
      have G10 : Hid (Calls Tryd.prog 11 #[.slice (some ⟨W10.heap.size, 0, none⟩) 2 2] (W10.alloc (.cells #[.int .u8 8, .int .u8 65] 5)) (EvG (W10.alloc (.cells #[.int .u8 8, .int .u8 65] 5)) [8, 65])) := Lib.hid (get_p (some ⟨W10.heap.size, 0, none⟩) [8, 65] 2 (by decide) (by decide) _ (FF.out _ (K10.out.more ((Below.refl _ W10).alloc (Nat.le_refl _) _)).b).s ((Bytes.new W10 [8, 65] (by decide) (0, 0) _ rfl).more (by simp)))
      go_wp2_with fail
      (with_reducible refine G10.out.mono ?_); rintro e w11 ⟨k11, r11, t11, y11, n11, na11, ke11, da11, er11, rfl, hv, b11⟩
      obtain rfl : er11 = 2 := hv.out.2.trans get4
      have K11 := Lib.hid ((K10.out.more ((Below.refl _ W10).alloc (Nat.le_refl _) _)).more b11.out)
      clear K10 hv b11 G10
      go_upto_region 16 with fail
      obtain ⟨W12, hW12⟩ : ∃ W, W = w11.alloc (.cells #[.int .i64 k11, .int .i64 r11, .int .i64 t11, .int .i64 y11, .int .i64 n11, .string na11, .string ke11, .string da11] 24) := ⟨_, rfl⟩
      have K12 : Hid (KN w W12 gs gd A3 cap3) := Lib.hid (K11.out.more (by rw [hW12]; exact (Below.refl _ _).alloc (Nat.le_refl _) _))
      rw [← hW12]
      clear hW12 K11
      obtain ⟨c0, c1, c2, c3, c4, c5, c6, c7⟩ := ob8 K12.out.s
      go_wp2_with fail
      (with_reducible refine (SS.out _ (FF.out _ K12.out.b)).mono ?_); rintro e w13 ⟨rfl, b13⟩
      have K13 := Lib.hid (K12.out.more b13)
      clear K12 b13 c0 c1 c2 c3 c4 c5 c6 c7
      obtain ⟨c0, c1, c2, c3, c4, c5, c6, c7⟩ := ob8 K13.out.d
      go_wp2_with fail
      (with_reducible refine (SN.out _ (FF.out _ K13.out.b)).mono ?_); rintro e w14 ⟨rfl, b14⟩
      have K14 := Lib.hid (K13.out.more b14)
      clear K13 b14 c0 c1 c2 c3 c4 c5 c6 c7
      have cv : (convert 27 9 (.slice A3 8 cap3)).run Tryd.prog w14 = .ok (.string ⟨#[4, 64, 15, 9, 3, 111, 107, 59]⟩) w14 := K14.out.o.conv rfl
      go_wp2
      go_ret
      exact ⟨rfl, K14.out.b⟩
end Go.Proofs.YtighnooklcmjaaaDoor
/-
  An event that came in; the laws' walks in the form that the frames take.
-/
namespace Go.Proofs.YtighnooklcmjaaaDoor
open Go.ChangeShapes Go.WideShapes Go.ChangeAt Go.RowKit Go.Deep
set_option maxRecDepth 20000 in
theorem event_in {H : Type} {enc : TypeId × Value → H} {w : World} {base b0 : Nat} {spare : Nat → Bool} {held : Bool} {r : Reach} {v : Value} {d : DataW H} {p : List MemPlace}
    (hv : Value.okWide Tryd.prog w r b0 24 v) (h : DataW.Trod enc Tryd.prog w base spare held 24 v d p) :
    ∃ (k r t y n : Int) (na ke da : ByteArray), v = .agg #[.int .i64 k, .int .i64 r, .int .i64 t, .int .i64 y, .int .i64 n, .string na, .string ke, .string da] ∧ EvIn ⟨k, r, t, y, n, na, ke, da⟩ := by
  obtain ⟨cs, rfl, hsz⟩ := okWide_struct Tryd.underlying24 hv
  have hc : Tryd.prog.cellsOf 24 = 8 := ev_cells
  rw [hc] at hsz
  obtain ⟨fuel, hf⟩ := h
  obtain ⟨v0, v1, v2, v3, v4, v5, v6, v7, rfl⟩ : ∃ v0 v1 v2 v3 v4 v5 v6 v7, cs = #[v0, v1, v2, v3, v4, v5, v6, v7] := by
    obtain ⟨l⟩ := cs
    match l, hsz with
    | [a, b, c, d, e, f, g, h], _ => exact ⟨a, b, c, d, e, f, g, h, rfl⟩
  have hf' : DataW.trod enc Tryd.prog w base spare held fuel 24 [v0, v1, v2, v3, v4, v5, v6, v7] = some (d, p) := by simpa [Value.cells] using hf
  obtain ⟨m0, y0, t0⟩ := field_in Tryd.underlying24 hf' 0 _ rfl rfl (by kernel_rfl : _ = 1)
  obtain ⟨m1, y1, t1⟩ := field_in Tryd.underlying24 hf' 1 _ rfl rfl (by kernel_rfl : _ = 1)
  obtain ⟨m2, y2, t2⟩ := field_in Tryd.underlying24 hf' 2 _ rfl rfl (by kernel_rfl : _ = 1)
  obtain ⟨m3, y3, t3⟩ := field_in Tryd.underlying24 hf' 3 _ rfl rfl (by kernel_rfl : _ = 1)
  obtain ⟨m4, y4, t4⟩ := field_in Tryd.underlying24 hf' 4 _ rfl rfl (by kernel_rfl : _ = 1)
  obtain ⟨m5, y5, t5⟩ := field_in Tryd.underlying24 hf' 5 _ rfl rfl (by kernel_rfl : _ = 1)
  obtain ⟨m6, y6, t6⟩ := field_in Tryd.underlying24 hf' 6 _ rfl rfl (by kernel_rfl : _ = 1)
  obtain ⟨m7, y7, t7⟩ := field_in Tryd.underlying24 hf' 7 _ rfl rfl (by kernel_rfl : _ = 1)
  obtain ⟨k, rfl, k0, k1⟩ := i64_of Tryd.underlying3 t0
  obtain ⟨r, rfl, r0, r1⟩ := i64_of Tryd.underlying3 t1
  obtain ⟨t, rfl, tt0, tt1⟩ := i64_of Tryd.underlying3 t2
  obtain ⟨y, rfl, yy0, yy1⟩ := i64_of Tryd.underlying3 t3
  obtain ⟨n, rfl, n0, n1⟩ := i64_of Tryd.underlying2 t4
  obtain ⟨na, rfl, hna⟩ := str_of Tryd.underlying9 t5
  obtain ⟨ke, rfl, hke⟩ := str_of Tryd.underlying9 t6
  obtain ⟨da, rfl, hda⟩ := str_of Tryd.underlying9 t7
  exact ⟨k, r, t, y, n, na, ke, da, rfl, ⟨k0, k1⟩, ⟨r0, r1⟩, ⟨tt0, tt1⟩, ⟨yy0, yy1⟩, ⟨n0, n1⟩, hna, hke, hda⟩
theorem says_end (k r t y n : Int) (na ke da : ByteArray) (h : EvIn ⟨k, r, t, y, n, na, ke, da⟩) (A : Option Addr) (zs : List Int) (cap : Nat) (hm : zs.length ≤ 9223372036854775807) (hl : zs.length ≤ cap) (w : World) (hF : FactsE w) (hb : Bytes w w.heap.size A zs) :
    Calls Tryd.prog 4 #[.agg #[.int .i64 k, .int .i64 r, .int .i64 t, .int .i64 y, .int .i64 n, .string na, .string ke, .string da], .slice A zs.length cap] w fun e w' => e = .returned (.bool true) ∧ Below w.heap.size w w' :=
  says_walk ⟨k, r, t, y, n, na, ke, da⟩ h A zs cap hm hl w hF hb
theorem back_end (k r t y n : Int) (na ke da : ByteArray) (h : EvIn ⟨k, r, t, y, n, na, ke, da⟩) (A : Option Addr) (zs : List Int) (cap : Nat) (hm : zs.length ≤ 9223372036854775807) (hl : zs.length ≤ cap) (cut : Int) (u0 : -9223372036854775808 ≤ cut) (u1 : cut ≤ 9223372036854775807) (w : World) (hF : FactsE w) (hb : Bytes w w.heap.size A zs) :
    Calls Tryd.prog 5 #[.agg #[.int .i64 k, .int .i64 r, .int .i64 t, .int .i64 y, .int .i64 n, .string na, .string ke, .string da], .slice A zs.length cap, .int .i64 cut] w fun e w' => e = .returned (.bool true) ∧ Below w.heap.size w w' :=
  back_walk ⟨k, r, t, y, n, na, ke, da⟩ h A zs cap hm hl cut u0 u1 w hF hb
theorem same_end (k r t y n : Int) (na ke da : ByteArray) (h : EvIn ⟨k, r, t, y, n, na, ke, da⟩) (k' r' t' y' n' : Int) (na' ke' da' : ByteArray) (h' : EvIn ⟨k', r', t', y', n', na', ke', da'⟩) (w : World) (hF : FactsE w) :
    Calls Tryd.prog 6 #[.agg #[.int .i64 k, .int .i64 r, .int .i64 t, .int .i64 y, .int .i64 n, .string na, .string ke, .string da], .agg #[.int .i64 k', .int .i64 r', .int .i64 t', .int .i64 y', .int .i64 n', .string na', .string ke', .string da']] w fun e w' => e = .returned (.bool true) ∧ Below w.heap.size w w' :=
  same_walk ⟨k, r, t, y, n, na, ke, da⟩ ⟨k', r', t', y', n', na', ke', da'⟩ h h' w hF
end Go.Proofs.YtighnooklcmjaaaDoor
