/-
  What the document's own shortest and one tell.
-/
import Derived.Test.YtgnkhfmpooomkaaDoorOps
import Derived.Test.YtgnkhfmpooomkaaDoorUtfP
namespace Go.Proofs.YtgnkhfmpooomkaaDoor
set_option linter.unusedVariables false
open Go.RowKit

theorem and63 (x : Int) (h0 : 0 ≤ x) (h1 : x < 2147483648) : bits .and .i32 x 63 = x % 64 := bits_mask .i32 31 (by decide) wraps_i32 6 (by decide) x h0 h1

theorem or224 (y : Int) (h0 : 0 ≤ y) (h1 : y < 16) : bits .or .i32 224 y = 224 + y := bits_join .i32 31 (by decide) wraps_i32 4 224 y (by decide) (by decide) (by decide) h0 (by simpa using h1) (by omega)
theorem or240 (y : Int) (h0 : 0 ≤ y) (h1 : y < 8) : bits .or .i32 240 y = 240 + y := bits_join .i32 31 (by decide) wraps_i32 3 240 y (by decide) (by decide) (by decide) h0 (by simpa using h1) (by omega)

theorem Bof (y : Nat) (h : y < 256) : B (UInt8.ofNat y) = .int .u8 (y : Int) := by simp only [B, toNat_ofNat y h]

theorem raw1 (x : Nat) (h : x < 128) : (raw 1 x).map B = [.int .u8 (x : Int)] := by
  simp only [raw, List.map_cons, List.map_nil, Bof x (by omega)]
theorem raw2 (x : Nat) (h : x < 2048) : (raw 2 x).map B = [.int .u8 (192 + (x : Int) / 64), .int .u8 (128 + (x : Int) % 64)] := by
  simp only [raw, List.map_cons, List.map_nil, Bof (192 + x / 64) (by omega), Bof (128 + x % 64) (by omega)]
  simp
theorem raw3 (x : Nat) (h : x < 65536) : (raw 3 x).map B = [.int .u8 (224 + (x : Int) / 4096), .int .u8 (128 + (x : Int) / 64 % 64), .int .u8 (128 + (x : Int) % 64)] := by
  simp only [raw, List.map_cons, List.map_nil, Bof (224 + x / 4096) (by omega), Bof (128 + x / 64 % 64) (by omega), Bof (128 + x % 64) (by omega)]
  simp
theorem raw4 (x : Nat) (h : x < 2097152) : (raw 4 x).map B = [.int .u8 (240 + (x : Int) / 262144), .int .u8 (128 + (x : Int) / 4096 % 64), .int .u8 (128 + (x : Int) / 64 % 64), .int .u8 (128 + (x : Int) % 64)] := by
  simp only [raw, List.map_cons, List.map_nil, Bof (240 + x / 262144) (by omega), Bof (128 + x / 4096 % 64) (by omega), Bof (128 + x / 64 % 64) (by omega), Bof (128 + x % 64) (by omega)]
  simp

end Go.Proofs.YtgnkhfmpooomkaaDoor
