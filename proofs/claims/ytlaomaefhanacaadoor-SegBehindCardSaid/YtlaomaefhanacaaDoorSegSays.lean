/-
  The law SegSays: Name, Parse and Scan tell what the reference tells.
-/
import Derived.Test.YtlaomaefhanacaaDoorSegAwake
import Derived.Test.YtlaomaefhanacaaDoorSegRefP
import Derived.Test.YtlaomaefhanacaaDoorSegRScan
namespace Go.Proofs.YtlaomaefhanacaaDoor
open Go.RowKit
theorem OwnP.low {w : World} {base b : Nat} {T : TypeId} {A : Option Addr} {cap : Nat} {vs : List (Value × Value)} (h : OwnP w base T A cap vs) (hb : b ≤ base) : OwnP w b T A cap vs := Joins.ownsRow_le h hb
set_option maxHeartbeats 4000000 in
set_option maxRecDepth 20000 in
theorem says_core (first ep : Int) (name : ByteArray) (A : Option Addr) (zs : List Int) (n cap : Nat) (hn : n = zs.length) (hl : n ≤ 2000) (hm : name.size ≤ 100) (hc : n ≤ cap) (w : World) (hb : Bytes w w.heap.size A zs) (HF : Hid (Facts w)) :
    Calls Tryd.prog 4 #[.int .i64 first, .string name, .slice A n cap, .int .i64 ep] w fun e w' => e = .returned (.bool true) ∧ Below w.heap.size w w' := by
  have hl' : (n : Int) ≤ 2000 := by omega
  have hm' : (name.size : Int) ≤ 100 := by omega
  have NM : Hid (∀ W, Facts W → Calls Tryd.prog 11 #[.int .i64 first] W (NamePost W (if Sg.inO first then Sg.nameB first else ⟨#[]⟩) (Sg.inO first))) := Lib.hid fun W hW => name_any first W hW
  have RN := rname_any first
  have PR : Hid (∀ W, Facts W → Calls Tryd.prog 10 #[.string name] W fun e w' => e = .returned (.tuple #[.int .i64 ((Sg.segP name).getD 0), .bool (Sg.segP name).isSome]) ∧ Hid (Below W.heap.size W w')) := Lib.hid fun W hW => parse_any name (by omega) W hW
  have RP : ∀ W, Calls Tryd.prog 16 #[.string name] W fun e w' => e = .returned (.tuple #[.int .i64 ((Sg.segP name).getD 0), .bool (Sg.segP name).isSome]) ∧ W = w' := fun W => rparse_any name W
  have SC : Hid (∀ W, Below w.heap.size w W → Calls Tryd.prog 12 #[.slice A n cap, .int .i64 first, .int .i64 ep] W (ScanPost W zs first ep)) := Lib.hid fun W hW => by
    rw [hn]; exact scan_any A zs cap first ep (by omega) (by omega) W ((hb.below hW).more hW.size)
  have RS : Hid (∀ W, Below w.heap.size w W → Calls Tryd.prog 17 #[.slice A n cap, .int .i64 first, .int .i64 ep] W (RScanPost W zs first ep)) := Lib.hid fun W hW => by
    rw [hn]; exact rscan_any A zs cap first ep (by omega) (by omega) W ((hb.below hW).more hW.size)
  have HT := Lib.hid (Sg.scV_tells zs.length zs first ep (Nat.le_refl _) hb.byte)
  have HN := Lib.hid hn
  have HL := Lib.hid hl
  clear hb hn hl hm hc
  generalize (Sg.segP name).getD 0 = m at *
  generalize (Sg.segP name).isSome = ok2 at *
  generalize (if Sg.inO first then Sg.nameB first else ⟨#[]⟩) = s at *
  generalize Sg.inO first = ok at *
  go_enter Tryd.func4, Tryd.ntmps4
  go_wp2_with fail
  refine (awake_any _ HF.out).mono ?_; rintro e w1 ⟨rfl, b1⟩
  have F1 := Lib.hid (HF.out.below b1.out)
  go_wp2_with fail
  refine (NM.out _ F1.out).mono ?_; rintro e w2 ⟨rfl, b2⟩
  have F2 := Lib.hid (F1.out.below b2.out)
  have B2 := Lib.hid (b1.out.trans (b2.out.mono b1.out.size))
  go_wp2_with fail
  refine (RN _).mono ?_; rintro e w' ⟨rfl, rfl⟩
  go_wp2_with fail
  refine (PR.out _ F2.out).mono ?_; rintro e w3 ⟨rfl, b3⟩
  have B3 := Lib.hid (B2.out.trans (b3.out.mono B2.out.size))
  go_wp2_with fail
  refine (RP _).mono ?_; rintro e w' ⟨rfl, rfl⟩
  go_wp2_with fail
  refine (SC.out _ B3.out).mono ?_; rintro e w4 ⟨l, A1, c1, h1, rfl, o1, d1⟩
  have B4 := Lib.hid (B3.out.trans (d1.mono B3.out.size))
  have O1 := Lib.hid o1
  have D1 := Lib.hid d1
  clear o1 d1
  go_wp2_with fail
  refine (RS.out _ B4.out).mono ?_; rintro e w5 ⟨l2, A2, c2, h2, rfl, o2, d2⟩
  have B5 := Lib.hid (B4.out.trans (d2.mono B4.out.size))
  obtain rfl : l = l2 := h1.out.symm.trans h2.out
  have LL : l.length ≤ 1000000000 := by
    have e := HT.out.1
    have e2 := HT.out.2.1
    have e3 := HL.out
    have e4 := HN.out
    rw [h1.out] at e
    omega
  have RC := Lib.hid (recs_same A1 A2 c1 c2 w3.heap.size l LL w5 (O1.out.grew d2 (Nat.le_refl _)) (OwnP.low o2 D1.out.size))
  clear o2 d2 LL h1 h2
  generalize (Sg.scV zs first ep).2 = k at *
  go_wp2_with fail
  refine RC.out.mono ?_; rintro e w6 ⟨rfl, d3⟩
  have B6 := Lib.hid (B5.out.trans (d3.mono B5.out.size))
  clear d3
  go_wp2
  go_ret
  exact ⟨rfl, B6.out⟩
set_option maxHeartbeats 1000000 in
theorem says_off (first ep : Int) (name : ByteArray) (A : Option Addr) (n cap : Nat) (h : 2000 < n ∨ (n ≤ 2000 ∧ 100 < name.size)) (w : World) (HF : Hid (Facts w)) :
    Calls Tryd.prog 4 #[.int .i64 first, .string name, .slice A n cap, .int .i64 ep] w fun e w' => e = .returned (.bool true) ∧ Below w.heap.size w w' := by
  rcases h with h | ⟨h1, h2⟩
  · have h' : (2000 : Int) < (n : Int) := by omega
    clear h
    go_enter Tryd.func4, Tryd.ntmps4
    go_wp2_with fail
    refine (awake_any _ HF.out).mono ?_; rintro e w1 ⟨rfl, b1⟩
    go_wp2
    go_ret
    exact ⟨rfl, b1.out⟩
  · have h1' : (n : Int) ≤ 2000 := by omega
    have h2' : (100 : Int) < (name.size : Int) := by omega
    clear h1 h2
    go_enter Tryd.func4, Tryd.ntmps4
    go_wp2_with fail
    refine (awake_any _ HF.out).mono ?_; rintro e w1 ⟨rfl, b1⟩
    go_wp2
    go_ret
    exact ⟨rfl, b1.out⟩
theorem says_walk (first ep : Int) (name : ByteArray) (A : Option Addr) (zs : List Int) (cap : Nat) (hc : zs.length ≤ cap) (w : World) (hb : Bytes w w.heap.size A zs) (hF : Facts w) :
    Calls Tryd.prog 4 #[.int .i64 first, .string name, .slice A zs.length cap, .int .i64 ep] w fun e w' => e = .returned (.bool true) ∧ Below w.heap.size w w' := by
  by_cases h : zs.length ≤ 2000 ∧ name.size ≤ 100
  · exact says_core first ep name A zs zs.length cap rfl h.1 h.2 hc w hb (Lib.hid hF)
  · exact says_off first ep name A zs.length cap (by omega) w (Lib.hid hF)
end Go.Proofs.YtlaomaefhanacaaDoor
